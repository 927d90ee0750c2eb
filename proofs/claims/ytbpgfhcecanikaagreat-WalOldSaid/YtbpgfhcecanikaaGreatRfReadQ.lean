/- Merged: RfWrite, RfRead. Contract of the reference's disk: Write. Condition: sizes. Contract of the reference's disk: Read. Condition: sizes. -/
import Derived.WalkSpells
import Derived.Outline
import Derived.Test.YtbpgfhcecanikaaGreatRfCrashQ
import Derived.Deep.QuietTactic
import Derived.BigQuiet
namespace Go.Proofs.YtbpgfhcecanikaaGreat
open Go.RowKit
set_option linter.unusedVariables false
theorem infoRW : (Tryz.prog.info? 113).map (fun i => (i.zero, i.size, i.bytes)) = some (some (.agg #[.int .i64 0, .string ⟨#[]⟩]), 2, 24) := by kernel_rfl
theorem src_rwrite (w : World) (k : Int) (s : ByteArray) (c : Nat) (e : TypeId) : Src Tryz.prog 2 42 (.slice (some ⟨w.heap.size, 0, none⟩) 1 c) 1 (wcells [(k, s)]) (w.alloc (.cells #[.int .i64 k, .string s] e)) :=
  Src.ofSlice _ Tryz.underlying42 ⟨w.heap.size, 0, none⟩ 1 c (wcells [(k, s)]) rfl (fun j u hj => Kq.cell_new _ _ _ (by
    rw [← List.getElem?_toArray] at hj
    exact hj)) (fun u hu => by
    simp only [wcells, List.mem_cons, List.not_mem_nil, or_false] at hu
    rcases hu with rfl | rfl <;> rfl)
theorem wcells_one (l : List (Int × ByteArray)) : ∀ u ∈ wcells l, u.oneCell' = true := by
  induction l with
  | nil => intro u hu; cases hu
  | cons p l ih =>
    obtain ⟨k, s⟩ := p
    intro u hu
    simp only [wcells, List.mem_cons] at hu
    rcases hu with rfl | rfl | hu
    · rfl
    · rfl
    · exact ih u hu
theorem src_buf {w : World} {base R a b : Nat} {A : Option Addr} {cap : Nat} {ws : List (Int × ByteArray)} {armed : Int} {st : List Nat} (h : RfS w base R a b (.slice A ws.length cap) ws armed st) : Src Tryz.prog 2 42 (.slice A ws.length cap) ws.length (wcells ws) w := by
  rcases h.own.2 with ⟨hv, h0⟩ | ⟨g, cap', cur, hv, _, hb, _, _, _, ht⟩
  · injection hv with e1 e2 e3
    subst e1
    have : ws = [] := List.eq_nil_of_length_eq_zero h0
    subst this
    exact Src.ofNil w Tryz.underlying42 cap
  · injection hv with e1 e2 e3
    subst e1
    refine Src.ofSlice _ Tryz.underlying42 ⟨g, 0, none⟩ ws.length cap (wcells ws) (wcells_length ws) (fun j u hj => ?_) (wcells_one ws)
    have hadd : (⟨g, 0, none⟩ : Addr).add j = ⟨g, j, none⟩ := by unfold Addr.add; split <;> simp_all
    have hj' : j < ws.length * 2 := by
      rcases Nat.lt_or_ge j (ws.length * 2) with h' | h'
      · exact h'
      · rw [List.getElem?_eq_none (by rw [wcells_length]; exact h')] at hj; cases hj
    rw [hadd, Kq.blk_cell hb j, ← Array.getElem?_toList, ← hj, ← ht, List.getElem?_take, if_pos hj']
set_option maxRecDepth 100000 in
set_option maxHeartbeats 1000000 in
theorem rf_write_range (base R a b : Nat) (buf : Value) (ws : List (Int × ByteArray)) (armed : Int) (st : List Nat) (k : Int) (s : ByteArray) (w : World) (h : RfS w base R a b buf ws armed st)
    (hb : ¬ (0 ≤ k ∧ k < (b : Int) ∧ s.size = a)) :
    Calls Tryz.prog 76 #[.pointer (some ⟨R, 0, none⟩), .int .i64 k, .string s] w fun x w' => x = .returned (.int .i64 1) ∧ w = w' := by
  have c0 := h.c0
  have c1 := h.c1
  clear h
  by_cases h0 : 0 ≤ k
  · have d1 : decide (k < 0) = false := decide_eq_false (by omega)
    by_cases h1 : k < (b : Int)
    · have d2 : decide ((b : Int) ≤ k) = false := decide_eq_false (by omega)
      have d3 : ((s.size : Int) != (a : Int)) = true := by simp; intro e; exact hb ⟨h0, h1, by omega⟩
      have d4 : (s.size != a) = true := by simp; intro e; exact hb ⟨h0, h1, e⟩
      clear hb h0 h1
      go_enter Tryz.func76, Tryz.ntmps76
      go_wp2
      go_ret
      exact ⟨rfl, rfl⟩
    · have d2 : decide ((b : Int) ≤ k) = true := decide_eq_true (by omega)
      clear hb h0 h1
      go_enter Tryz.func76, Tryz.ntmps76
      go_wp2
      go_ret
      exact ⟨rfl, rfl⟩
  · have d1 : decide (k < 0) = true := decide_eq_true (by omega)
    clear hb h0
    go_enter Tryz.func76, Tryz.ntmps76
    go_wp2
    go_ret
    exact ⟨rfl, rfl⟩
set_option maxRecDepth 100000 in
set_option maxHeartbeats 1000000 in
theorem rf_write_io (base R a b : Nat) (buf : Value) (ws : List (Int × ByteArray)) (st : List Nat) (k : Int) (s : ByteArray) (w : World) (h : RfS w base R a b buf ws ((1 : Nat) : Int) st)
    (h0 : 0 ≤ k) (h1 : k < (b : Int)) (hs : s.size = a) :
    Calls Tryz.prog 76 #[.pointer (some ⟨R, 0, none⟩), .int .i64 k, .string s] w fun x w' => x = .returned (.int .i64 13) ∧ RfS w' base R a b buf ws ((0 : Nat) : Int) st ∧ Kq.Keeps (· = R) w w' := by
  have H := Lib.hid h
  have c0 := h.c0
  have c1 := h.c1
  have d1 : decide (k < 0) = false := decide_eq_false (by omega)
  have d2 : decide ((b : Int) ≤ k) = false := decide_eq_false (by omega)
  have d3 : ((s.size : Int) != (a : Int)) = false := by simp [hs]
  have d4 : (s.size != a) = false := by simp [hs]
  clear h h0 h1 hs
  go_enter Tryz.func76, Tryz.ntmps76
  go_wp2_with fail
  refine (rf_fails base R a b buf ws 1 st _ H.out (by omega)).mono ?_
  rintro x w3 ⟨rfl, D3, K3⟩
  have H3 := Lib.hid (And.intro D3 K3)
  clear D3 K3
  go_wp2
  go_ret
  exact ⟨rfl, H3.out.1, H3.out.2⟩
def RwrP (w : World) (base R a b : Nat) (ws : List (Int × ByteArray)) (armed : Int) (st : List Nat) (x : Ending) (w' : World) : Prop :=
  x = .returned (.int .i64 0) ∧ ∃ buf', RfS w' base R a b buf' ws armed st ∧ Kq.Keeps (· = R) w w' ∧ (∀ j, buf'.ownBlock = some j → w.heap.size ≤ j)
set_option maxRecDepth 100000 in
set_option maxHeartbeats 1000000 in
theorem rf_write_ok (base R a b : Nat) (buf : Value) (ws : List (Int × ByteArray)) (armed : Nat) (st : List Nat) (k : Int) (s : ByteArray) (w : World) (h : RfS w base R a b buf ws (armed : Int) st)
    (h0 : 0 ≤ k) (h1 : k < (b : Int)) (hs : s.size = a) (hw : ws.length ≤ 1000000) (har : armed ≠ 1) (har2 : armed ≤ 9223372036854775807) :
    Calls Tryz.prog 76 #[.pointer (some ⟨R, 0, none⟩), .int .i64 k, .string s] w (RwrP w base R a b (ws ++ [(k, s)]) ((armed - 1 : Nat) : Int) st) := by
  obtain ⟨i0, hi, hz0, hz1, hz2⟩ := info_parts infoRW
  have H := Lib.hid h
  have c0 := h.c0
  have c1 := h.c1
  have d1 : decide (k < 0) = false := decide_eq_false (by omega)
  have d2 : decide ((b : Int) ≤ k) = false := decide_eq_false (by omega)
  have d3 : ((s.size : Int) != (a : Int)) = false := by simp [hs]
  have d4 : (s.size != a) = false := by simp [hs]
  have HF : Hid (decide (armed = 1) = false) := Lib.hid (decide_eq_false har)
  have HAR := Lib.hid har2
  obtain ⟨A, cap, rfl⟩ := h.shape
  have HSZ := Lib.hid (Kq.blk_lt h.blk)
  clear h h0 h1 hs har har2
  go_enter Tryz.func76, Tryz.ntmps76
  go_wp2_with fail
  refine (rf_fails base R a b _ ws armed st _ H.out HAR.out).mono ?_
  rw [HF.out]
  rintro x w3 ⟨rfl, D3, K3⟩
  have H3 := Lib.hid (And.intro D3 K3)
  clear D3 K3 c0 c1
  have c3 := H3.out.1.c3
  have c3' := (H3.out.1.below (Kq.below_alloc w3 (.cells #[] 113))).c3
  go_wp2_with (at_builtin; refine Kq.wpList_append_any _ rfl (.tmp 29) (.tmp 33) 42 42 rfl w3.heap.size 113 i0 (.agg #[.int .i64 0, .string ⟨#[]⟩]) 2 24 Tryz.underlying42 hi hz0 hz1 hz2 rfl (by decide) (.slice (some ⟨w3.heap.size, 0, none⟩) 0 0) 0 [] rfl (World.ownsRow_made w3 #[] 0 (Nat.le_refl _) (Nat.zero_le _) rfl) (.slice A ws.length cap) ws.length (wcells ws) rfl ?hs ?h1 ?h2 ?h3 ?_)
  case hs => exact src_buf (H3.out.1.below (Kq.below_alloc w3 _))
  case h1 => unfold maxLen; omega
  case h2 => omega
  case h3 => simp
  intro v1 w4 hown1 hgrow1 hfresh1
  have HR3 : Hid (R < w3.heap.size) := Lib.hid (Kq.blk_lt H3.out.1.blk)
  have HK4 : Hid (Kq.Keeps (fun j => w3.heap.size ≤ j) w3 w4) := Lib.hid ((Kq.Keeps.alloc _ w3 _).trans (Kq.Keeps.grown hgrow1 (fun j _ hj => by simp [Value.ownBlock] at hj; omega)))
  have HR4 := Lib.hid (H3.out.1.keeps HK4.out (by have := HR3.out; omega) (fun j hj hle => by have := (H3.out.1.own.lt j hj).2; omega))
  have HO1 := Lib.hid hown1
  have HFR : Hid (∀ j, v1.ownBlock = some j → w3.heap.size ≤ j) := Lib.hid (fun j hj => by
    rcases hfresh1 j hj with h | h
    · simp [Value.ownBlock] at h; omega
    · (try simp at h); omega)
  clear hown1 hgrow1 hfresh1 c3 c3'
  go_wp2_with (at_builtin; go_loud (refine Kq.wpList_append_any _ rfl (.tmp 34) (.tmp 38) 42 42 rfl w3.heap.size 113 i0 (.agg #[.int .i64 0, .string ⟨#[]⟩]) 2 24 Tryz.underlying42 hi hz0 hz1 hz2 rfl (by decide) v1 ws.length (wcells ws) rfl (HO1.out.alloc _) (.slice (some ⟨w4.heap.size, 0, none⟩) 1 1) 1 (wcells [(k, s)]) rfl ?hs ?h1 ?h2 ?h3 ?_))
  case hs => exact src_rwrite w4 k s 1 _
  case h1 => unfold maxLen; omega
  case h2 => omega
  case h3 => have := HK4.out.size; simp; omega
  intro v2 w5 hown2 hgrow2 hfresh2
  have HK5 : Hid (Kq.Keeps (fun j => w3.heap.size ≤ j) w4 w5) := Lib.hid ((Kq.Keeps.alloc _ w4 _).trans (Kq.Keeps.grown hgrow2 (fun j _ hj => HFR.out j hj)))
  have HS45 := HK4.out.size
  have hfr2 : ∀ j, v2.ownBlock = some j → w3.heap.size ≤ j := fun j hj => by
    rcases hfresh2 j hj with h | h
    · exact HFR.out j h.symm
    · (try simp at h); omega
  have HR5 := Lib.hid (HR4.out.keeps HK5.out (by have := HR3.out; omega) (fun j hj hle => by have := (H3.out.1.own.lt j hj).2; omega))
  have f3 := HR5.out.fz 3
  have c3 := HR5.out.c3
  have HP : Hid (RwrP w base R a b (ws ++ [(k, s)]) ((armed - 1 : Nat) : Int) st (.returned (.int .i64 0)) (w5.setCell ⟨R, 3, none⟩ v2)) := by
    have hk3 : Kq.Keeps (· = R) w3 w5 := (HK4.out.trans HK5.out).mono (fun j h1 h2 => by omega)
    have hsz := H3.out.2.size
    refine Lib.hid ⟨rfl, v2, ⟨Kq.blk_set HR5.out.blk 3 v2, ?_, fun j hj e => by have := hfr2 j hj; have := HR3.out; omega, by have := HR5.out.base; simpa [World.setCell] using this⟩, (H3.out.2.trans hk3).trans (Kq.Keeps.setCell _ _ _ rfl), fun j hj => Nat.le_trans hsz (hfr2 j hj)⟩
    have hb3 : base ≤ w3.heap.size := H3.out.1.base
    rw [List.length_append, List.length_singleton, wcells_append]
    obtain ⟨q1, q2⟩ := hown2
    (try simp only [List.nil_append, Nat.zero_add] at q1 q2)
    refine ⟨q1, q2.imp id ?_⟩
    rintro ⟨g, cap, cur, hv, h3, h4, h5⟩
    exact ⟨g, cap, cur, hv, Nat.le_trans hb3 h3, by rw [Below.heap_setCell _ _ _ _ (show g ≠ R by have := HR3.out; omega)]; exact h4, h5⟩
  obtain ⟨a', n', cap', hv⟩ := Kq.own_shape hown2
  clear hown2 hgrow2 hfresh2 hfr2
  rw [hv] at HP ⊢
  clear hv
  go_wp2
  go_ret
  exact HP.out
end Go.Proofs.YtbpgfhcecanikaaGreat
namespace Go.Proofs.YtbpgfhcecanikaaGreat
open Go.RowKit
set_option linter.unusedVariables false
set_option maxRecDepth 100000 in
set_option maxHeartbeats 1000000 in
theorem rf_read_hit (base R a b : Nat) (buf : Value) (ws : List (Int × ByteArray)) (armed k : Int) (st : List Nat) (s : ByteArray) (w : World) (h : RfS w base R a b buf ws armed st)
    (h0 : 0 ≤ k) (h1 : k < (b : Int)) (hw : ws.length ≤ 1000000) (hl : lastW k ws = some s) :
    Calls Tryz.prog 72 #[.pointer (some ⟨R, 0, none⟩), .int .i64 k] w fun x w' => x = .returned (.tuple #[.string s, .int .i64 0]) ∧ Below w.heap.size w w' := by
  have H := Lib.hid h
  have c1 := h.c1
  have c3 := h.c3
  have d1 : decide (k < 0) = false := decide_eq_false (by omega)
  have d2 : decide ((b : Int) ≤ k) = false := decide_eq_false (by omega)
  have HL := Lib.hid hl
  have hl0 : 0 < ws.length := by
    rcases ws with _ | ⟨p, ws⟩
    · cases hl
    · simp
  obtain ⟨g, cap, rfl, hat⟩ := h.at hl0
  have HAT := Lib.hid hat
  clear hat h h0 h1 hl
  go_enter Tryz.func72, Tryz.ntmps72
  go_wp2
  go_loop [6] (fun i => (∃ j : Nat, j < ws.length ∧ i = .int .i64 (j : Int) ∧ lastW k ws = lastW k (ws.take (j + 1))) ∨ (i = .int .i64 (-1) ∧ lastW k ws = none)) (fun i => (intOf i + 1).toNat)
  case atStart => exact Or.inl ⟨ws.length - 1, by omega, by congr 1; omega, by rw [show ws.length - 1 + 1 = ws.length by omega, List.take_length]⟩
  case round =>
    rcases hrel with ⟨j, hj, rfl, hlj⟩ | ⟨rfl, hln⟩
    · obtain ⟨w0, w1⟩ := HAT.out j hj
      have HT := Lib.hid (hlj.trans (last_take k ws j hj))
      clear hlj
      by_cases hk : ws[j].1 = k
      · have HS : Hid (ws[j].2 = s) := Lib.hid (by have := HT.out; rw [if_pos hk] at this; have h2 := HL.out; rw [this] at h2; exact Option.some.inj h2)
        rw [hk] at w0
        clear hk
        go_wp2
        go_ret2
        exact ⟨by rw [← HS.out]; rfl, Below.refl _ _⟩
      · have hkb : (ws[j].1 == k) = false := by simpa using hk
        have HN : Hid (lastW k ws = lastW k (ws.take j)) := Lib.hid (by have := HT.out; rwa [if_neg hk] at this)
        clear hk
        rcases j with _ | j
        · go_wp2
          go_round
          case rel => exact Or.inr ⟨rfl, by rw [HN.out]; rfl⟩
          case measure => simp [intOf]
        · go_wp2
          go_round
          case rel => exact Or.inl ⟨j, by omega, by go_num, HN.out⟩
          case measure => simp [intOf]; omega
    · have := HL.out
      rw [hln] at this
      cases this
set_option maxRecDepth 100000 in
set_option maxHeartbeats 1000000 in
theorem rf_read_miss (base R a b k p k1 q : Nat) (buf : Value) (ws : List (Int × ByteArray)) (armed : Int) (st : List Nat) (w : World) (h : RfS w base R a b buf ws armed st) (hlt : ∀ x ∈ st, x < 256)
    (hk : k < b) (hk1 : k1 = k + 1) (hp : k * a = p) (hq : k1 * a = q) (hqa : q = p + a) (hpa : p + a ≤ st.length) (hs : st.length ≤ 3000000) (hb : b ≤ 3000000) (hws : ws.length ≤ 1000000) (hn : lastW (k : Int) ws = none) :
    Calls Tryz.prog 72 #[.pointer (some ⟨R, 0, none⟩), .int .i64 (k : Int)] w fun x w' => x = .returned (.tuple #[.string (txt ((st.drop p).take a)), .int .i64 0]) ∧ Below w.heap.size w w' := by
  have H := Lib.hid h
  have c0 := h.c0
  have c1 := h.c1
  have c2 := h.c2
  have c3 := h.c3
  have HN := Lib.hid (lastW_none _ _ hn)
  obtain ⟨A, cap, rfl⟩ := h.shape
  have hat : 0 < ws.length → ∃ g, A = some ⟨g, 0, none⟩ ∧ ∀ j (hj : j < ws.length), w.cell? ⟨g, j * 2, none⟩ = some (.int .i64 ws[j].1) ∧ w.cell? ⟨g, j * 2 + 1, none⟩ = some (.string ws[j].2) := fun h0 => by
    obtain ⟨g, cap', hb, hat⟩ := h.at h0
    injection hb with hA
    exact ⟨g, hA, hat⟩
  have HAT := Lib.hid hat
  have d1 : decide ((k : Int) < 0) = false := decide_eq_false (by omega)
  have d2 : decide ((b : Int) ≤ (k : Int)) = false := decide_eq_false (by omega)
  have d3 : decide (b ≤ k) = false := decide_eq_false (by omega)
  have hX : (txt st).extract p q = txt ((st.drop p).take a) := by
    apply nl_inj
    rw [nl_extract, nl_txt _ hlt, nl_txt _ (fun x hx => hlt x (List.mem_of_mem_drop (List.mem_of_mem_take hx)))]
    congr 1
    omega
  have l1 : (p : Int) ≤ (q : Int) := by omega
  have l2 : (q : Int) ≤ ((txt st).size : Int) := by rw [txt_size]; omega
  have l3 : p ≤ q := by omega
  have l4 : q ≤ (txt st).size := by rw [txt_size]; omega
  have m1 : IntKind.i64.wrap ((k : Int) * (a : Int)) = (p : Int) := by rw [← Int.natCast_mul, hp]; exact IntWalk.i64_in _ (by omega)
  have m2 : IntKind.i64.wrap ((k : Int) + 1) = (k1 : Int) := by rw [IntWalk.i64_in _ (by omega)]; omega
  have m3 : IntKind.i64.wrap ((k1 : Int) * (a : Int)) = (q : Int) := by rw [← Int.natCast_mul, hq]; exact IntWalk.i64_in _ (by omega)
  have n1 : wrap64 ((k : Int) * (a : Int)) = (p : Int) := by rw [← Int.natCast_mul, hp]; exact IntWalk.wrap64_in _ (by omega)
  have n2 : wrap64 ((k : Int) + 1) = (k1 : Int) := by rw [IntWalk.wrap64_in _ (by omega)]; omega
  have n3 : wrap64 ((k1 : Int) * (a : Int)) = (q : Int) := by rw [← Int.natCast_mul, hq]; exact IntWalk.wrap64_in _ (by omega)
  clear h hat hlt hk hk1 hp hq hqa hpa hs hb hn
  generalize txt st = T at *
  generalize txt ((st.drop p).take a) = X at *
  go_enter Tryz.func72, Tryz.ntmps72
  go_wp2
  go_loop [6] (fun i => ∃ j : Nat, j ≤ ws.length ∧ i = .int .i64 ((j : Int) - 1)) (fun i => (intOf i + 1).toNat)
  case atStart => exact ⟨ws.length, by omega, by go_num⟩
  case round =>
    obtain ⟨j, hj, rfl⟩ := hrel
    rcases j with _ | j
    · rw [show (((0 : Nat) : Int) - 1) = -1 from rfl]
      go_wp2
      go_quiet (fail)
      go_wp2
      go_ret2
      exact ⟨rfl, ⟨rfl, rfl, rfl, Nat.le_refl _, fun _ _ => rfl⟩⟩
    · obtain ⟨g, rfl, hat⟩ := HAT.out (by omega)
      obtain ⟨w0, w1⟩ := hat j (by omega)
      clear hat
      have hkb : (ws[j].1 == (k : Int)) = false := by simpa using HN.out j (by omega)
      rw [show (((j + 1 : Nat) : Int) - 1) = (j : Int) by omega]
      go_wp2
      go_round
      case rel => exact ⟨j, by omega, by go_num⟩
      case measure => simp [intOf]
theorem rf_read (base R a b k : Nat) (buf : Value) (ws : List (Int × ByteArray)) (armed : Int) (st : List Nat) (w : World) (h : RfS w base R a b buf ws armed st) (hlt : ∀ x ∈ st, x < 256)
    (hk : k < b) (hl : st.length = a * b) (hn : a * b ≤ 3000000) (hb : b ≤ 3000000) (hws : ws.length ≤ 1000000) :
    Calls Tryz.prog 72 #[.pointer (some ⟨R, 0, none⟩), .int .i64 (k : Int)] w fun x w' => x = .returned (.tuple #[.string (readB a ws st k), .int .i64 0]) ∧ Below w.heap.size w w' := by
  have hf := fit_mul (a := a) hk
  unfold readB
  cases hw : lastW (k : Int) ws with
  | some s => exact rf_read_hit base R a b buf ws armed k st s w h (by omega) (by omega) hws hw
  | none => exact rf_read_miss base R a b k (k * a) (k + 1) ((k + 1) * a) buf ws armed st w h hlt hk rfl rfl rfl (by rw [Nat.succ_mul]) (by omega) (by omega) hb hws hw
end Go.Proofs.YtbpgfhcecanikaaGreat
