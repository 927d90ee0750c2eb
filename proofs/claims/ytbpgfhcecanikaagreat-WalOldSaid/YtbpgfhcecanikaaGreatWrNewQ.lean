/- Merged: WlA, WrNew. Contracts of a log's Segment, front, text, lay. Condition: sizes. A writer that was just declared; writers side by side; Bytes in one contract. No condition. -/
import Derived.WalkSpells
import Derived.Outline
import Derived.Deep.QuietTactic
import Derived.Deep.RegionHeld
import Derived.Test.YtbpgfhcecanikaaGreatHeldMonoQ
import Derived.Test.YtbpgfhcecanikaaGreatDkInvQ
import Derived.Test.YtbpgfhcecanikaaGreatWireTextQ
import Derived.Test.YtbpgfhcecanikaaGreatCommonQ
namespace Go.Proofs.YtbpgfhcecanikaaGreat
open Go.RowKit
set_option linter.unusedVariables false
set_option maxRecDepth 100000 in
set_option maxHeartbeats 1000000 in
theorem wl_segment {w : World} {base B S a b R : Nat} {buf : Value} {ws : List (Int × ByteArray)} {ar : Nat} {st : List Nat} {v : WalV} (h : WlS w base B S a b R buf ws ar st v) (hb : 4 ≤ b) (hb2 : b ≤ 1000000) :
    Calls Tryz.prog 17 #[.pointer (some ⟨R, 0, none⟩)] w fun x w' => x = .returned (.int .i64 (segN b : Nat)) ∧ Below w.heap.size w w' := by
  have c0 := h.c0
  have d0 := h.d.d.c0
  have d1 := h.d.d.c1
  obtain ⟨m, hm⟩ : ∃ m, m = b - 2 := ⟨_, rfl⟩
  have hw : IntKind.i64.wrap ((b : Int) - 2) = (m : Int) := by rw [IntWalk.i64_in _ (by omega)]; omega
  obtain ⟨s, hs⟩ : ∃ s, s = segN b := ⟨_, rfl⟩
  have hs2 : s = m / 2 := by rw [hs, hm]; rfl
  have hd : Int.tdiv (m : Int) 2 = (s : Int) := by rw [hs2, Int.tdiv_eq_ediv_of_nonneg (by omega)]; omega
  have hw2 : IntKind.i64.wrap (s : Int) = (s : Int) := IntWalk.i64_in _ (by omega)
  rw [← hs]
  have HX := Lib.hid (And.intro hm hs2)
  clear hm hs hs2 h
  go_enter Tryz.func17, Tryz.ntmps17
  go_wp2_with fail
  refine (dk_sectors (a : Int) (b : Int) w).mono ?_
  rintro x w1 ⟨rfl, hb1⟩
  clear c0 d0 d1
  go_wp2
  go_ret
  first | exact ⟨rfl, hb1⟩ | exact ⟨by simp, hb1⟩
set_option maxRecDepth 100000 in
set_option maxHeartbeats 1000000 in
theorem wl_front {w : World} {base B S a b R : Nat} {buf : Value} {ws : List (Int × ByteArray)} {ar : Nat} {st : List Nat} {v : WalV} (h : WlS w base B S a b R buf ws ar st v) (hb : 4 ≤ b) (hb2 : b ≤ 1000000) (g : Int) (sg : Nat) (hsg : sg ≤ 1) :
    Calls Tryz.prog 45 #[.pointer (some ⟨R, 0, none⟩), .agg #[.int .u64 g, .int .i64 (sg : Int)]] w fun x w' => x = .returned (.int .i64 ((2 + sg * segN b : Nat) : Int)) ∧ Below w.heap.size w w' := by
  obtain ⟨w1, hw1⟩ : ∃ z, z = w.alloc (.cells #[.int .u64 g, .int .i64 (sg : Int)] 84) := ⟨_, rfl⟩
  have hb1 : Below w.heap.size w w1 := by rw [hw1]; exact Kq.below_alloc _ _
  obtain ⟨X, hX⟩ : ∃ X, X = w.heap.size := ⟨_, rfl⟩
  have hc : w1.cell? ⟨X, 1, none⟩ = some (.int .i64 (sg : Int)) := by rw [hw1, hX]; simp
  have hXl : X < w1.heap.size := by rw [hw1, hX]; simp
  have HD : Hid (w1.drew.cell? ⟨X, 1, none⟩ = some (.int .i64 (sg : Int)) ∧ WlS w1.drew base B S a b R buf ws ar st v ∧ Below w.heap.size w w1.drew ∧ X < w1.drew.heap.size) := Lib.hid ⟨hc, (h.below hb1).drew, hb1.drew, hXl⟩
  have HSG := Lib.hid (fun (wx : World) (hx : WlS wx base B S a b R buf ws ar st v) => wl_segment hx hb hb2)
  have hsl : segN b ≤ 1000000 := by unfold segN; omega
  obtain ⟨s, hs⟩ : ∃ s, s = segN b := ⟨_, rfl⟩
  rw [← hs] at HSG hsl
  rw [← hs]
  obtain ⟨m, hm⟩ : ∃ m, m = sg * s := ⟨_, rfl⟩
  have hm2 : m ≤ 1000000 := by
    rw [hm]
    have h01 : sg = 0 ∨ sg = 1 := by omega
    rcases h01 with rfl | rfl <;> omega
  obtain ⟨r, hr⟩ : ∃ r, r = 2 + m := ⟨_, rfl⟩
  rw [← hm, ← hr]
  have q1 : (sg : Int) * (s : Int) = (m : Int) := by rw [hm]; simp
  have q2 : IntKind.i64.wrap ((sg : Int) * (s : Int)) = (m : Int) := by rw [q1]; exact IntWalk.i64_in _ (by omega)
  have q3 : IntKind.i64.wrap (2 + (m : Int)) = (r : Int) := by rw [IntWalk.i64_in _ (by omega)]; omega
  have HW1 := Lib.hid hw1
  have HXX := Lib.hid hX
  clear hb1 hc hXl h hs hm hr q1 hw1 hX
  go_enter Tryz.func45, Tryz.ntmps45
  go_wp2_with fail
  rw [← HW1.out, ← HXX.out]
  refine wp_region_held_drew (S := fun w' => w'.cell? ⟨X, 1, none⟩ = some (.int .i64 (sg : Int))) (by kernel_rfl) HD.out.1 (fun hS0 => ?_)
  generalize w1.drew = wd at *
  refine wpAnyH_take (i := 0) (v := ?_) rfl (by kernel_rfl) (by kernel_rfl) (by kernel_rfl) (fun _ _ _ h => h) (Or.inl ⟨by kernel_rfl, ?_⟩) (by assumption) ?_
  rotate_left
  · intro w hSw; (try dsimp only at hSw); go_simp; (try with_reducible rfl)
  refine wpAnyH_take (i := 1) (v := ?_) rfl (by kernel_rfl) (by kernel_rfl) (by kernel_rfl) (fun _ _ _ h => h) (Or.inl ⟨by kernel_rfl, ?_⟩) (by assumption) ?_
  rotate_left
  · intro w hSw; (try dsimp only at hSw); go_simp; (try with_reducible rfl)
  refine wpAnyH_take (i := 2) (v := ?_) rfl (by kernel_rfl) (by kernel_rfl) (by kernel_rfl) (fun _ _ _ h => h) (Or.inl ⟨by kernel_rfl, ?_⟩) (by assumption) ?_
  rotate_left
  · intro w hSw; (try dsimp only at hSw); go_simp; (try with_reducible rfl)
  refine wpAnyH_ready (rs := [3]) (by kernel_rfl) (by simp) ?_
  refine AllReadyH.cons rfl (fun K hK => ?_) AllReadyH.nil
  go_simp
  refine (HSG.out wd HD.out.2.1).mono ?_
  rintro x w2 ⟨rfl, hb2⟩
  have HD2 : Hid (w2.cell? ⟨X, 1, none⟩ = some (.int .i64 (sg : Int)) ∧ Below w.heap.size w w2) := Lib.hid ⟨(hb2.cell (p := ⟨X, 1, none⟩) HD.out.2.2.2).trans HD.out.1, HD.out.2.2.1.trans (hb2.mono HD.out.2.2.1.size)⟩
  clear hS0 hb2 HD
  refine hK.out _ _ HD2.out.1 (fun hS0 => ?_)
  clear hK K
  refine wpAnyH_take (i := 4) (v := ?_) rfl (by kernel_rfl) (by kernel_rfl) (by kernel_rfl) (fun _ _ _ h => h) (Or.inl ⟨by kernel_rfl, ?_⟩) (by assumption) ?_
  rotate_left
  · intro w hSw; (try dsimp only at hSw); go_simp; (try with_reducible rfl)
  refine wpAnyH_take (i := 5) (v := ?_) rfl (by kernel_rfl) (by kernel_rfl) (by kernel_rfl) (fun _ _ _ h => h) (Or.inl ⟨by kernel_rfl, ?_⟩) (by assumption) ?_
  rotate_left
  · intro w hSw; (try dsimp only at hSw); go_simp; (try with_reducible rfl)
  refine wpAnyH_take (i := 6) (v := ?_) rfl (by kernel_rfl) (by kernel_rfl) (by kernel_rfl) (fun _ _ _ h => h) (Or.inl ⟨by kernel_rfl, ?_⟩) (by assumption) ?_
  rotate_left
  · intro w hSw; (try dsimp only at hSw); go_simp; (try with_reducible rfl)
  refine wpAnyH_done (by kernel_rfl) ?_ _
  clear hS0
  go_simp
  go_wp2
  go_ret
  exact ⟨rfl, HD2.out.2⟩
theorem infoU8W : (Tryz.prog.info? 5).map (fun i => (i.zero, i.size, i.bytes)) = some (some (.int .u8 0), 1, 1) := by kernel_rfl
theorem info_partsW {t : TypeId} {z : Value} {s b : Nat} (h : (Tryz.prog.info? t).map (fun i => (i.zero, i.size, i.bytes)) = some (some z, s, b)) : ∃ i, Tryz.prog.info? t = some i ∧ i.zero = some z ∧ i.size = s ∧ i.bytes = b := by
  cases hi : Tryz.prog.info? t with
  | none => rw [hi] at h; cases h
  | some i =>
    rw [hi] at h
    simp only [Option.map_some, Option.some.injEq, Prod.mk.injEq] at h
    exact ⟨i, rfl, h.1, h.2.1, h.2.2⟩
theorem lastW_mem {k : Int} {ws : List (Int × ByteArray)} {s : ByteArray} (h : lastW k ws = some s) : (k, s) ∈ ws := by
  induction ws with
  | nil => cases h
  | cons p ws ih =>
    obtain ⟨j, t⟩ := p
    rw [lastW_cons] at h
    cases hl : lastW k ws with
    | some u =>
      rw [hl] at h
      obtain rfl := Option.some.inj h
      exact List.mem_cons_of_mem _ (ih hl)
    | none =>
      rw [hl] at h
      by_cases hj : j = k
      · rw [if_pos hj] at h
        obtain rfl := Option.some.inj h
        rw [hj]; exact List.mem_cons_self ..
      · rw [if_neg hj] at h; cases h
theorem readB_size {a b N : Nat} {ws : List (Int × ByteArray)} {ar : Nat} {st : List Nat} (ho : StOk a b N ws ar st) (n : Int) : (rdF a b ws st n).1.size ≤ a := by
  unfold rdF
  by_cases h : 0 ≤ n ∧ n < (b : Int)
  · rw [if_pos h]
    show (readB a ws st n).size ≤ a
    unfold readB
    cases hl : lastW n ws with
    | none =>
      show (txt _).size ≤ a
      unfold sec
      rw [← nl_length, nl_txt _ (fun x hx => ho.lt x (List.mem_of_mem_drop (List.mem_of_mem_take hx))), List.length_take]; omega
    | some s =>
      have hm := lastW_mem hl
      show s.size ≤ a
      have := (ho.w _ hm).2.2
      simp only at this
      omega
  · rw [if_neg h]
    exact Nat.zero_le _
theorem textF_length {a b N : Nat} {ws : List (Int × ByteArray)} {ar : Nat} {st : List Nat} (ho : StOk a b N ws ar st) (k : Nat) : ∀ c, (textF a b ws st k c).length ≤ c * a
  | 0 => by simp [textF]
  | c + 1 => by
    have := textF_length ho k c
    have h2 := readB_size ho ((k + c : Nat) : Int)
    rw [textF, List.length_append, nl_length, Nat.succ_mul]
    omega
theorem textF_lt {a b : Nat} {ws : List (Int × ByteArray)} {st : List Nat} (k : Nat) : ∀ c, ∀ x ∈ textF a b ws st k c, x < 256
  | 0, x, hx => by cases hx
  | c + 1, x, hx => by
    rw [textF] at hx
    rcases List.mem_append.1 hx with h | h
    · exact textF_lt k c x h
    · exact nl_lt _ x h
theorem grown_belowW {w1 w2 : World} {base size : Nat} {e : TypeId} {v : Value} {n : Nat} {xs : List Value} (h : w1.ownsRow base e size v n xs) (hg : w1.grownBy w2 v.ownBlock) (hb : base ≤ w1.heap.size) : Below base w1 w2 :=
  (Kq.Keeps.grown (S := fun k => base ≤ k) hg (fun k _ hk => own_ge h hk)).below hb (fun k _ hk => hk)
theorem own_belowW {w w' : World} {base size : Nat} {e : TypeId} {v : Value} {n : Nat} {xs : List Value} (h : w.ownsRow base e size v n xs) (hb : Below w.heap.size w w') : w'.ownsRow base e size v n xs := by
  rcases h.2 with ⟨rfl, h0⟩ | ⟨g, cap, cur, rfl, h3, h4, r⟩
  · exact ⟨h.1, Or.inl ⟨rfl, h0⟩⟩
  · exact ⟨h.1, Or.inr ⟨g, cap, cur, rfl, h3, Kq.below_blk hb h4 (Kq.blk_lt h4), r⟩⟩
set_option maxRecDepth 100000 in
set_option maxHeartbeats 1000000 in
theorem wl_text {w : World} {base B S a b R N : Nat} {buf : Value} {ws : List (Int × ByteArray)} {ar : Nat} {st : List Nat} {v : WalV} (h : WlS w base B S a b R buf ws ar st v) (ho : StOk a b N ws ar st) (hN : N ≤ 1000000) (hn : a * b ≤ 3000000) (ha : 0 < a) (ha2 : a ≤ 512) (k c : Nat) (hk : k ≤ 10000) (hc : c ≤ 10000) :
    Calls Tryz.prog 44 #[.pointer (some ⟨R, 0, none⟩), .int .i64 (k : Int), .int .i64 (c : Int)] w fun x w' => x = .returned (.string (txt (textF a b ws st k c))) ∧ Below w.heap.size w w' := by
  obtain ⟨i0, hi, hz0, hz1, hz2⟩ := info_partsW infoU8W
  have H := Lib.hid h
  have HO := Lib.hid ho
  have HR := Lib.hid (fun (wx : World) (hx : WlS wx base B S a b R buf ws ar st v) (n : Int) => dk_read_all base B S a b buf ws (ar : Int) st n wx hx.d ho.lt ho.len hn ha (Nat.le_trans ho.nw hN))
  clear h ho hn ha hN
  go_enter Tryz.func44, Tryz.ntmps44
  go_wp2
  go_loopw [7, 12] (fun u i wr => ∃ j : Nat, j ≤ c ∧ i = .int .i64 (j : Int) ∧ wr.ownsRow w.heap.size 5 1 u (textF a b ws st k j).length (bcells (textF a b ws st k j)) ∧ Below w.heap.size w wr) (fun _ i _ => c - (intOf i).toNat)
  case atStart => exact ⟨0, Nat.zero_le _, rfl, World.ownsRow_nil _ _ _ _, Below.refl _ _⟩
  case round =>
    obtain ⟨j, hj, rfl, hown, hbl⟩ := hrel
    by_cases hlt : j < c
    · have hi0 : (j : Int) < (c : Int) := by omega
      obtain ⟨x, hx⟩ : ∃ x, x = k + j := ⟨_, rfl⟩
      have hw1 : IntKind.i64.wrap ((k : Int) + (j : Int)) = (x : Int) := by rw [IntWalk.i64_in _ (by omega)]; omega
      have HW := Lib.hid (And.intro (H.out.below hbl) (And.intro hown hbl))
      have HX := Lib.hid hx
      have HLT := Lib.hid hlt
      have c0 := HW.out.1.c0
      clear hown hbl hx
      go_wp2_with fail
      refine (HR.out wr HW.out.1 (x : Int)).mono ?_
      rintro y w2 ⟨rfl, hb2⟩
      have HT : Hid (textF a b ws st k (j + 1) = textF a b ws st k j ++ nl (rdF a b ws st (x : Int)).1) := Lib.hid (by rw [textF, ← HX.out])
      have hle := textF_length HO.out k j
      have hle2 := readB_size HO.out (x : Int)
      have hmul : j * a ≤ 10000 * 512 := Nat.mul_le_mul (by omega) ha2
      generalize (rdF a b ws st (x : Int)).1 = s at *
      generalize (rdF a b ws st (x : Int)).2 = e at *
      have HW2 : Hid (w2.ownsRow w.heap.size 5 1 u7 (textF a b ws st k j).length (bcells (textF a b ws st k j)) ∧ Below w.heap.size w w2) := Lib.hid ⟨own_belowW HW.out.2.1 hb2, HW.out.2.2.trans (hb2.mono HW.out.2.2.size)⟩
      clear hb2 c0 HW hw1
      obtain ⟨a', n', c', rfl⟩ := Kq.own_shape HW2.out.1
      go_wp2_with (at_builtin; refine Kq.wpList_append_any _ rfl (.tmp 26) (.tmp 27) 64 9 rfl w.heap.size 5 i0 (.int .u8 0) 1 1 Tryz.underlying64 hi hz0 hz1 hz2 rfl (by decide) (.slice a' n' c') (textF a b ws st k j).length (bcells (textF a b ws st k j)) rfl HW2.out.1 (.string s) s.size (bcells (nl s)) rfl ?hs ?h1 ?h2 HW2.out.2.size ?_)
      case hs => rw [← byteCells_nl]; exact Src.ofString _ Tryz.underlying9 s
      case h1 => unfold maxLen; omega
      case h2 => omega
      intro v' w3 hown3 hgrow hfresh
      obtain ⟨a2, n2, c2, rfl⟩ := Kq.own_shape hown3
      have HD : Hid (w3.ownsRow w.heap.size 5 1 (.slice a2 n2 c2) (textF a b ws st k (j + 1)).length (bcells (textF a b ws st k (j + 1))) ∧ Below w.heap.size w w3) := Lib.hid ⟨by rw [HT.out, bcells_append, List.length_append, nl_length]; exact hown3, HW2.out.2.trans (grown_belowW HW2.out.1 hgrow HW2.out.2.size)⟩
      clear hown3 hgrow hfresh hle hle2 hmul HW2 HT
      go_wp2
      go_roundw
      case rel => exact ⟨j + 1, HLT.out, by go_num, HD.out⟩
      case measure => have := HLT.out; simp [intOf]; omega
    · obtain rfl : j = c := by omega
      have hcv := own_conv hown (textF_lt k j)
      have HBL := Lib.hid hbl
      obtain ⟨T, hT⟩ : ∃ T, T = txt (textF a b ws st k j) := ⟨_, rfl⟩
      rw [← hT] at hcv
      have HT := Lib.hid hT
      obtain ⟨a', n', c', rfl⟩ := Kq.own_shape hown
      clear hown hbl hlt hT
      go_wp2
      go_ret
      exact ⟨by rw [← HT.out]; rfl, HBL.out⟩
theorem StrsAt.keepsW {P : Nat → Prop} {w w' : World} {A : Option Addr} {l : List ByteArray} (h : StrsAt w A l) (hk : Kq.Keeps P w w') (hP : ∀ g o, 0 < l.length → A = some ⟨g, o, none⟩ → ¬ P g) : StrsAt w' A l := ⟨fun j hj => by
  obtain ⟨b, off, e, h1, h2⟩ := h.at_ j hj
  have hb : w'.heap[b]? = w.heap[b]? := hk.block b h1 (hP b off (by omega) e)
  refine ⟨b, off, e, Nat.lt_of_lt_of_le h1 hk.size, ?_⟩
  rw [World.cell?_of_block hb]; exact h2⟩
theorem layF_step {a b k : Nat} {l : List ByteArray} {j : Nat} (hj : j < l.length) {ws : List (Int × ByteArray)} {ar : Nat} {st : List Nat} (h : (wrF a b ((k + j : Nat) : Int) l[j] ws ar).2.2 = 0) :
    layF a b (k + j) (l.drop j) ws ar st = layF a b (k + (j + 1)) (l.drop (j + 1)) (wrF a b ((k + j : Nat) : Int) l[j] ws ar).1 (wrF a b ((k + j : Nat) : Int) l[j] ws ar).2.1 st := by
  rw [List.drop_eq_getElem_cons hj]
  conv => lhs; unfold layF
  rw [if_pos h, Nat.add_assoc]
theorem layF_stop {a b k : Nat} {l : List ByteArray} {j : Nat} (hj : j < l.length) {ws : List (Int × ByteArray)} {ar : Nat} {st : List Nat} (h : (wrF a b ((k + j : Nat) : Int) l[j] ws ar).2.2 ≠ 0) :
    layF a b (k + j) (l.drop j) ws ar st = ((wrF a b ((k + j : Nat) : Int) l[j] ws ar).1, (wrF a b ((k + j : Nat) : Int) l[j] ws ar).2.1, st, (wrF a b ((k + j : Nat) : Int) l[j] ws ar).2.2) := by
  rw [List.drop_eq_getElem_cons hj]
  conv => lhs; unfold layF
  rw [if_neg h]
set_option maxRecDepth 100000 in
set_option maxHeartbeats 2000000 in
theorem wl_lay {w : World} {base B S a b R N : Nat} {buf : Value} {ws : List (Int × ByteArray)} {ar : Nat} {st : List Nat} {v : WalV} (h : WlS w base B S a b R buf ws ar st v) (ho : StOk a b N ws ar st) (A : Option Addr) (cap : Nat) (l : List ByteArray) (hN : N + l.length + 10 ≤ 1000000) (hn : a * b ≤ 3000000) (ha : 0 < a) (ha2 : a ≤ 512) (k : Nat) (hk : k ≤ 10000) (hA : StrsAt w A l) (hAo : ∀ g o, 0 < l.length → A = some ⟨g, o, none⟩ → ¬ (Own B S buf g ∨ g = R)) (hl : l.length ≤ 10000) (hls : ∀ s ∈ l, s.size ≤ 1000) :
    Calls Tryz.prog 54 #[.pointer (some ⟨R, 0, none⟩), .int .i64 (k : Int), .slice A l.length cap] w fun x w' => x = .returned (.int .i64 (layF a b k l ws ar st).2.2.2) ∧ WoP w base B S a b R buf (layF a b k l ws ar st).1 (layF a b k l ws ar st).2.1 (layF a b k l ws ar st).2.2.1 v w' := by
  have H := Lib.hid (And.intro h (And.intro ho (And.intro hA hAo)))
  have HN := Lib.hid (And.intro hN (And.intro hn (And.intro ha (And.intro ha2 hls))))
  clear h ho hA hAo hN hn ha ha2 hls
  go_enter Tryz.func54, Tryz.ntmps54
  go_wp2
  go_loopw [12] (fun i wr => ∃ j : Nat, ∃ wsj : List (Int × ByteArray), ∃ arj : Nat, j ≤ l.length ∧ i = .int .i64 (j : Int) ∧ layF a b k l ws ar st = layF a b (k + j) (l.drop j) wsj arj st ∧ WoP w base B S a b R buf wsj arj st v wr ∧ StOk a b (N + j) wsj arj st) (fun i _ => l.length - (intOf i).toNat)
  case atStart => exact ⟨0, ws, ar, Nat.zero_le _, rfl, rfl, WoP.here H.out.1, H.out.2.1⟩
  case round =>
    obtain ⟨j, wsj, arj, hj, rfl, heq, hwo, hso⟩ := hrel
    obtain ⟨buf1, W1, K1, F1⟩ := hwo
    by_cases hlt : j < l.length
    · have hi0 : (j : Int) < (l.length : Int) := by omega
      have hAt := H.out.2.2.1.keepsW K1 H.out.2.2.2
      obtain ⟨g, o, rfl, -, cs⟩ := hAt.at_ j hlt
      obtain ⟨s, hs⟩ : ∃ s, s = l[j] := ⟨_, rfl⟩
      rw [← hs] at cs
      obtain ⟨x, hx⟩ : ∃ x, x = k + j := ⟨_, rfl⟩
      have hw1 : IntKind.i64.wrap ((k : Int) + (j : Int)) = (x : Int) := by rw [IntWalk.i64_in _ (by omega)]; omega
      have HLT := Lib.hid hlt
      have heqx : layF a b k l ws ar st = layF a b x (l.drop j) wsj arj st := by rw [hx]; exact heq
      have HW := Lib.hid (And.intro W1 (And.intro K1 (And.intro F1 (And.intro hso (And.intro heqx (And.intro hs hx))))))
      have c0 := W1.c0
      clear W1 K1 F1 hso heq heqx hAt hs hx
      go_wp2_with fail
      refine (dk_write_all base B S a b buf1 wsj arj st (x : Int) s wr HW.out.1.d (by have := HN.out.2.2.2.2 s (by rw [HW.out.2.2.2.2.2.1]; exact List.getElem_mem _); unfold maxLen; omega) (by have := HW.out.2.2.2.1.nw; have := HN.out.1; omega) HW.out.2.2.2.1.ar).mono ?_
      rintro y w2 ⟨rfl, hd⟩
      have HD := Lib.hid (HW.out.1.step hd)
      have HST := Lib.hid (fun (hc : (wrF a b ((k + j : Nat) : Int) (l[j]'HLT.out) wsj arj).2.2 = 0) => layF_step (a := a) (b := b) (k := k) HLT.out (st := st) hc)
      have HSP := Lib.hid (fun (hc : (wrF a b ((k + j : Nat) : Int) (l[j]'HLT.out) wsj arj).2.2 ≠ 0) => layF_stop (a := a) (b := b) (k := k) HLT.out (st := st) hc)
      have HOK := Lib.hid (wrF_ok HW.out.2.2.2.1 (x : Int) s)
      rw [← HW.out.2.2.2.2.2.1, ← HW.out.2.2.2.2.2.2] at HST HSP
      clear hd c0 cs hw1
      generalize wrF a b (x : Int) s wsj arj = y at *
      obtain ⟨ws2, ar2, c⟩ := y
      simp only at HD HST HSP HOK
      by_cases hc0 : c = 0
      · subst hc0
        have HE := Lib.hid (HST.out rfl)
        clear HST HSP
        go_wp2
        go_roundw
        case rel => exact ⟨j + 1, ws2, ar2, HLT.out, by go_num, HW.out.2.2.2.2.1.trans (by rw [HE.out]), WoP.comp H.out.1.lt HW.out.2.1 HW.out.2.2.1 HD.out, HOK.out⟩
        case measure => have := HLT.out; simp [intOf]; omega
      · have HE := Lib.hid (HSP.out hc0)
        have hcb : (c == 0) = false := beq_eq_false_iff_ne.2 hc0
        have hcn : (c != 0) = true := by rw [bne_iff_ne]; exact hc0
        clear HST HSP
        go_wp2
        go_ret
        exact ⟨by rw [HW.out.2.2.2.2.1, HE.out]; rfl, by rw [HW.out.2.2.2.2.1, HE.out]; exact WoP.comp H.out.1.lt HW.out.2.1 HW.out.2.2.1 HD.out⟩
    · obtain rfl : j = l.length := by omega
      rw [List.drop_length] at heq
      have HW := Lib.hid (And.intro W1 (And.intro K1 (And.intro F1 (And.intro hso heq))))
      have c0 := W1.c0
      clear W1 K1 F1 hso heq hlt
      go_wp2_with fail
      refine (dk_flush_all base B S a b buf1 wsj arj st wr HW.out.1.d (HW.out.2.2.2.1.up (by have := HN.out.1; omega)) HN.out.2.1 HN.out.2.2.1 (by have := HN.out.2.2.2.1; omega)).mono ?_
      rintro y w2 ⟨rfl, hd⟩
      have HD := Lib.hid (HW.out.1.step hd)
      have HE : Hid (layF a b k l ws ar st = flF a wsj arj st) := Lib.hid HW.out.2.2.2.2
      clear hd c0
      have hfl : (if arj = 1 then (wsj, 0, st, (13 : Int)) else ([], arj - 1, flushB a wsj st, 0)) = flF a wsj arj st := rfl
      rw [hfl] at HD ⊢
      rw [← HE.out] at HD ⊢
      have HD2 : Hid (WoP w base B S a b R buf (layF a b k l ws ar st).1 (layF a b k l ws ar st).2.1 (layF a b k l ws ar st).2.2.1 v w2) := Lib.hid (WoP.comp H.out.1.lt HW.out.2.1 HW.out.2.2.1 HD.out)
      obtain ⟨c, hc⟩ : ∃ c, c = (layF a b k l ws ar st).2.2.2 := ⟨_, rfl⟩
      rw [← hc]
      have HC := Lib.hid hc
      clear hfl hc HD
      go_wp2
      go_ret
      exact ⟨by rw [← HC.out]; rfl, HD2.out⟩
end Go.Proofs.YtbpgfhcecanikaaGreat
namespace Go.Proofs.YtbpgfhcecanikaaGreat
open Go.RowKit
set_option linter.unusedVariables false
/-- a writer that was just declared -/
theorem wr_new (w : World) : Wr (w.alloc (.cells #[.int .i64 0, .slice none 0 0] 142 (0, 0))) w.heap.size w.heap.size 0 (.slice none 0 0) [] := by
  refine ⟨Kq.blk_new _ _ _ _, ?_, (fun k hk => by cases hk), ?_⟩
  · exact ⟨rfl, Or.inl ⟨rfl, rfl⟩⟩
  · exact (Kq.below_alloc w _).size
/-- what a fresh writer's calls leave below is as it was -/
theorem WrMid.below {w wr : World} {v : Value} {e : Int} {l : List Nat} {o : Obj} {base : Nat} (h : WrMid (w.alloc o) base w.heap.size (.slice none 0 0) e v l wr) : Below w.heap.size w wr :=
  (Kq.below_alloc w o).trans (h.keeps.below (Kq.below_alloc w o).size (fun k _ hk => by
    rcases hk with rfl | hk
    · exact Nat.le_refl _
    · cases hk))
theorem own_later {w w' : World} {base size : Nat} {e : TypeId} {v : Value} {n : Nat} {xs : List Value} (h : w.ownsRow base e size v n xs) (hb : ∀ k, v.ownBlock = some k → w'.heap[k]? = w.heap[k]?) : w'.ownsRow base e size v n xs := by
  refine ⟨h.1, ?_⟩
  rcases h.2 with h0 | ⟨g, cap, cur, rfl, h1, h2, h3⟩
  · exact Or.inl h0
  · exact Or.inr ⟨g, cap, cur, rfl, h1, (hb g rfl).trans h2, h3⟩
theorem Wr.later {S : Nat → Prop} {w w' : World} {base B : Nat} {e : Int} {v : Value} {l : List Nat} (h : Wr w base B e v l) (hk : Kq.Keeps S w w') (hB : ¬ S B) (ho : ∀ k, v.ownBlock = some k → ¬ S k) : Wr w' base B e v l :=
  ⟨hk.blk h.blk hB, own_later h.own (fun k hk' => hk.block k (h.own.lt k hk').2 (ho k hk')), h.ne, Nat.le_trans h.base hk.size⟩
def bytesOf (e : Int) (l : List Nat) : ByteArray := if e = 0 then txt l else ⟨#[]⟩
theorem wr_bytes (base B : Nat) (e : Int) (v : Value) (l : List Nat) (w : World) (h : Wr w base B e v l) (hl : ∀ b ∈ l, b < 256) :
    Calls Tryz.prog 87 #[.pointer (some ⟨B, 0, none⟩)] w fun x w' => x = .returned (.tuple #[.string (bytesOf e l), .int .i64 e]) ∧ w = w' := by
  unfold bytesOf
  by_cases he : e = 0
  · subst he
    exact wr_bytes_ok base B v l w h hl
  · rw [if_neg he]
    exact wr_bytes_bad base B e v l w h he
theorem Wr.belowW {w w' : World} {base B : Nat} {e : Int} {v : Value} {l : List Nat} (h : Wr w base B e v l) (hb : Below w.heap.size w w') : Wr w' base B e v l :=
  h.later (Kq.Keeps.of_below (S := fun _ => False) hb (fun k h1 h2 => absurd h1 (Nat.not_le.2 h2))) id (fun k _ => id)
theorem WrAny.from {w w0 w' : World} {base B : Nat} {v : Value} {e : Int} {l : List Nat} {x : Ending} (hb : Below w.heap.size w w0) (h : WrAny w0 base B v e l x w') : WrAny w base B v e l x w' := by
  obtain ⟨hx, v', h1, h2, h3⟩ := h
  exact ⟨hx, v', h1, (Kq.Keeps.of_below hb (fun k h1 h2 => absurd h1 (Nat.not_le.2 h2))).trans h2, fun k hk => (h3 k hk).imp id (Nat.le_trans hb.size)⟩
end Go.Proofs.YtbpgfhcecanikaaGreat
