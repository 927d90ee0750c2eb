/- Contracts of carrackref08.Leaf, Left, Top, Digest, Root. Condition: sizes. -/
import Derived.WalkSpells
import Derived.Outline
import Derived.Deep.RegionHeld
import Derived.Test.YtcknhnbckbocjaaDoorMkBQ
import Derived.Test.YtcknhnbckbocjaaDoorShBookWQ
namespace Go.Proofs.YtcknhnbckbocjaaDoor
open Go.RowKit
set_option linter.unusedVariables false
/-- a call that asks the book leaves it so -/
def BkPost (w : World) (lo hi P : Nat) (U : List ByteArray) (v : Value) (x : Ending) (w' : World) : Prop :=
  x = .returned v ∧ BookW w' lo hi P U ∧ Kq.Keeps (fun k => lo ≤ k ∧ k < hi) w w'
/-- pairs in memory, below the book -/
def PsLo (w : World) (lo : Nat) (A : Option Addr) (l : List PairV) : Prop := ∀ j (h : j < l.length), ∃ b off, A = some ⟨b, off, none⟩ ∧ b < lo ∧ b < w.heap.size ∧ w.cell? ⟨b, off + j * 2, none⟩ = some (.string l[j].1) ∧ w.cell? ⟨b, off + j * 2 + 1, none⟩ = some (.string l[j].2)
theorem PsLo.at {w : World} {lo : Nat} {A : Option Addr} {l : List PairV} (h : PsLo w lo A l) : PsAt w A l := fun j hj => by
  obtain ⟨b, off, rfl, _, h1, h2, h3⟩ := h j hj
  exact ⟨b, off, rfl, h1, h2, h3⟩
theorem PsLo.keeps {w w' : World} {lo : Nat} {A : Option Addr} {l : List PairV} {S : Nat → Prop} (h : PsLo w lo A l) (hk : Kq.Keeps S w w') (hS : ∀ k, S k → lo ≤ k) : PsLo w' lo A l := fun j hj => by
  obtain ⟨b, off, rfl, h0, h1, h2, h3⟩ := h j hj
  have hb := hk.block b h1 (fun hs => by have := hS b hs; omega)
  exact ⟨b, off, rfl, h0, Nat.lt_of_lt_of_le h1 hk.size, by rw [World.cell?_of_block hb]; exact h2, by rw [World.cell?_of_block hb]; exact h3⟩
theorem PsLo.below {w w' : World} {lo : Nat} {A : Option Addr} {l : List PairV} (h : PsLo w lo A l) (hb : Below w.heap.size w w') : PsLo w' lo A l :=
  h.keeps (Kq.Keeps.of_below (S := fun _ => False) hb (fun k h1 h2 => absurd h1 (Nat.not_le.2 h2))) (fun k hk => hk.elim)
theorem PsLo.take {w : World} {lo : Nat} {A : Option Addr} {l : List PairV} (h : PsLo w lo A l) (k : Nat) : PsLo w lo A (l.take k) := fun j hj => by
  rw [List.length_take] at hj
  obtain ⟨b, off, rfl, h0, hlt, h1, h2⟩ := h j (by omega)
  exact ⟨b, off, rfl, h0, hlt, by rw [List.getElem_take]; exact h1, by rw [List.getElem_take]; exact h2⟩
theorem PsLo.drop {w : World} {lo b off : Nat} {l : List PairV} (h : PsLo w lo (some ⟨b, off, none⟩) l) (k : Nat) : PsLo w lo (some ⟨b, off + k * 2, none⟩) (l.drop k) := fun j hj => by
  rw [List.length_drop] at hj
  obtain ⟨b', off', he, h0, hlt, h1, h2⟩ := h (k + j) (by omega)
  simp only [Option.some.injEq, Addr.mk.injEq] at he
  obtain ⟨rfl, rfl, -⟩ := he
  refine ⟨b, off + k * 2, rfl, h0, hlt, ?_, ?_⟩
  · rw [List.getElem_drop, show off + k * 2 + j * 2 = off + (k + j) * 2 by omega]; exact h1
  · rw [List.getElem_drop, show off + k * 2 + j * 2 = off + (k + j) * 2 by omega]; exact h2
theorem LBox.keeps {w w' : World} {X : Nat} {p : PairV} {S : Nat → Prop} (h : LBox w X p) (hlt : X < w.heap.size) (hk : Kq.Keeps S w w') (hS : ¬ S X) : LBox w' X p := by
  have hb := hk.block X hlt hS
  exact ⟨by rw [World.cell?_of_block hb]; exact h.1, by rw [World.cell?_of_block hb]; exact h.2⟩
theorem BkPost.from {w w0 : World} {lo hi P : Nat} {U : List ByteArray} {v : Value} {x : Ending} {w' : World} (h : BkPost w0 lo hi P U v x w') (hb : Below w.heap.size w w0) : BkPost w lo hi P U v x w' :=
  ⟨h.1, h.2.1, (Kq.Keeps.of_below (S := fun k => lo ≤ k ∧ k < hi) hb (fun k h1 h2 => absurd h2 (Nat.not_lt.2 h1))).trans h.2.2⟩
set_option maxRecDepth 100000 in
set_option maxHeartbeats 2000000 in
theorem rk_leaf (lo hi P : Nat) (T : List ByteArray) (p : PairV) (w : World) (hB : BookW w lo hi P T) (hhi : hi ≤ w.heap.size) (hlo : lo ≤ w.heap.size) (hT : T.length < 1000) (hs : p.1.size + p.2.size ≤ 90000) :
    Calls Tryd.prog 57 #[.pointer (some ⟨P, 0, none⟩), .agg #[.string p.1, .string p.2]] w (BkPost w lo hi P (leafT p :: T) (.string (dgT (leafT p)))) := by
  obtain ⟨k, v⟩ := p
  simp only at hs ⊢
  have hb0 := (Kq.below_alloc w (.cells #[.string k, .string v] 59)).drew
  have HD : Hid (LBox (w.alloc (.cells #[.string k, .string v] 59)).drew w.heap.size (k, v) ∧ w.heap.size < (w.alloc (.cells #[.string k, .string v] 59)).drew.heap.size ∧ Below w.heap.size w (w.alloc (.cells #[.string k, .string v] 59)).drew ∧ BookW (w.alloc (.cells #[.string k, .string v] 59)).drew lo hi P T) :=
    Lib.hid ⟨⟨Kq.blk_cell (Kq.blk_new w #[.string k, .string v] 59 (0, 0)) 0, Kq.blk_cell (Kq.blk_new w #[.string k, .string v] 59 (0, 0)) 1⟩, by show _ < (w.alloc _).heap.size; simp, hb0, hB.below hb0⟩
  have HS := Lib.hid (And.intro hs (And.intro hhi (And.intro hlo hT)))
  have HK := Lib.hid (fun w => ref_num k.size 1 w (by unfold M64; omega) (by decide))
  have HV := Lib.hid (fun w => ref_num v.size 1 w (by unfold M64; omega) (by decide))
  have hw1 : IntKind.u64.wrap (k.size : Int) = (k.size : Int) := IntWalk.u64_in _ (by omega)
  have hw2 : IntKind.u64.wrap (v.size : Int) = (v.size : Int) := IntWalk.u64_in _ (by omega)
  have hb1 : ∀ n, txt (be n 1) = oneT n := fun n => by simp [be, oneT, List.range, List.range.loop]
  rw [hb1] at HK HV
  clear hb1
  have s1 := oneT_size k.size
  have s2 := oneT_size v.size
  have hL1 : ¬ 9223372036854775807 < 2 + k.size := by omega
  have hL2 : ¬ 9223372036854775807 < 2 + k.size + 1 := by omega
  have hL3 : ¬ 9223372036854775807 < 2 + k.size + 1 + v.size := by omega
  obtain ⟨L, hL⟩ : ∃ L, L = leafT (k, v) := ⟨_, rfl⟩
  have hsz : L.size ≤ 900000000 := by
    rw [hL]; unfold leafT
    simp only [ByteArray.size_append, oneT_size]
    have : (⟨#[0]⟩ : ByteArray).size = 1 := rfl
    omega
  have hL' : (((⟨#[0]⟩ ++ oneT k.size) ++ k) ++ oneT v.size) ++ v = L := hL.symm
  have HLZ := Lib.hid hsz
  rw [← hL]
  clear hB hhi hlo hT hs hb0 hL hsz
  generalize oneT k.size = T1 at *
  generalize oneT v.size = T2 at *
  go_enter Tryd.func57, Tryd.ntmps57
  go_wp2
  refine wp_region_held_drew (S := fun w' => LBox w' w.heap.size (k, v)) (by kernel_rfl) HD.out.1 (fun hS0 => ?_)
  generalize (w.alloc (.cells #[.string k, .string v] 59)).drew = z0 at *
  unfold LBox at hS0
  dsimp only [LBox]
  dsimp only at hS0
  refine wpAnyH_take (i := 0) (v := ?_) rfl (by kernel_rfl) (by kernel_rfl) (by kernel_rfl) (fun _ _ _ h => h) (Or.inl ⟨by kernel_rfl, ?_⟩) (by assumption) ?_
  rotate_left
  · intro w hSw; (try dsimp only at hSw); go_simp; (try with_reducible rfl)
  refine wpAnyH_take (i := 1) (v := ?_) rfl (by kernel_rfl) (by kernel_rfl) (by kernel_rfl) (fun _ _ _ h => h) (Or.inl ⟨by kernel_rfl, ?_⟩) (by assumption) ?_
  rotate_left
  · intro w hSw; (try dsimp only at hSw); go_simp; (try with_reducible rfl)
  refine wpAnyH_take (i := 2) (v := ?_) rfl (by kernel_rfl) (by kernel_rfl) (by kernel_rfl) (fun _ _ _ h => h) (Or.inl ⟨by kernel_rfl, ?_⟩) (by assumption) ?_
  rotate_left
  · intro w hSw; (try dsimp only at hSw); go_simp; (try with_reducible rfl)
  refine wpAnyH_take (i := 3) (v := ?_) rfl (by kernel_rfl) (by kernel_rfl) (by kernel_rfl) (fun _ _ _ h => h) (Or.inl ⟨by kernel_rfl, ?_⟩) (by assumption) ?_
  rotate_left
  · intro w hSw; (try dsimp only at hSw); go_simp; (try with_reducible rfl)
  refine wpAnyH_take (i := 4) (v := ?_) rfl (by kernel_rfl) (by kernel_rfl) (by kernel_rfl) (fun _ _ _ h => h) (Or.inl ⟨by kernel_rfl, ?_⟩) (by assumption) ?_
  rotate_left
  · intro w hSw; (try dsimp only at hSw); go_simp; (try with_reducible rfl)
  refine wpAnyH_take (i := 7) (v := ?_) rfl (by kernel_rfl) (by kernel_rfl) (by kernel_rfl) (fun _ _ _ h => h) (Or.inl ⟨by kernel_rfl, ?_⟩) (by assumption) ?_
  rotate_left
  · intro w hSw; (try dsimp only at hSw); go_simp; (try with_reducible rfl)
  refine wpAnyH_take (i := 8) (v := ?_) rfl (by kernel_rfl) (by kernel_rfl) (by kernel_rfl) (fun _ _ _ h => h) (Or.inl ⟨by kernel_rfl, ?_⟩) (by assumption) ?_
  rotate_left
  · intro w hSw; (try dsimp only at hSw); go_simp; (try with_reducible rfl)
  refine wpAnyH_take (i := 10) (v := ?_) rfl (by kernel_rfl) (by kernel_rfl) (by kernel_rfl) (fun _ _ _ h => h) (Or.inl ⟨by kernel_rfl, ?_⟩) (by assumption) ?_
  rotate_left
  · intro w hSw; (try dsimp only at hSw); go_simp; (try with_reducible rfl)
  refine wpAnyH_take (i := 11) (v := ?_) rfl (by kernel_rfl) (by kernel_rfl) (by kernel_rfl) (fun _ _ _ h => h) (Or.inl ⟨by kernel_rfl, ?_⟩) (by assumption) ?_
  rotate_left
  · intro w hSw; (try dsimp only at hSw); go_simp; (try with_reducible rfl)
  refine wpAnyH_take (i := 12) (v := ?_) rfl (by kernel_rfl) (by kernel_rfl) (by kernel_rfl) (fun _ _ _ h => h) (Or.inl ⟨by kernel_rfl, ?_⟩) (by assumption) ?_
  rotate_left
  · intro w hSw; (try dsimp only at hSw); go_simp; (try with_reducible rfl)
  refine wpAnyH_take (i := 13) (v := ?_) rfl (by kernel_rfl) (by kernel_rfl) (by kernel_rfl) (fun _ _ _ h => h) (Or.inl ⟨by kernel_rfl, ?_⟩) (by assumption) ?_
  rotate_left
  · intro w hSw; (try dsimp only at hSw); go_simp; (try with_reducible rfl)
  refine wpAnyH_take (i := 16) (v := ?_) rfl (by kernel_rfl) (by kernel_rfl) (by kernel_rfl) (fun _ _ _ h => h) (Or.inl ⟨by kernel_rfl, ?_⟩) (by assumption) ?_
  rotate_left
  · intro w hSw; (try dsimp only at hSw); go_simp; (try with_reducible rfl)
  refine wpAnyH_take (i := 17) (v := ?_) rfl (by kernel_rfl) (by kernel_rfl) (by kernel_rfl) (fun _ _ _ h => h) (Or.inl ⟨by kernel_rfl, ?_⟩) (by assumption) ?_
  rotate_left
  · intro w hSw; (try dsimp only at hSw); go_simp; (try with_reducible rfl)
  refine wpAnyH_ready (rs := [5]) (by kernel_rfl) (by simp) ?_
  refine AllReadyH.cons rfl (fun K hK => ?_) AllReadyH.nil
  go_simp
  refine (HK.out _).mono ?_
  rintro x z1 ⟨rfl, hb1⟩
  have HD1 : Hid (LBox z1 w.heap.size (k, v) ∧ w.heap.size < z1.heap.size ∧ Below w.heap.size w z1 ∧ BookW z1 lo hi P T) := Lib.hid ⟨HD.out.1.below HD.out.2.1 hb1, Nat.lt_of_lt_of_le HD.out.2.1 hb1.size, HD.out.2.2.1.trans (hb1.mono HD.out.2.2.1.size), HD.out.2.2.2.below hb1⟩
  clear hb1 HD hS0
  refine hK.out _ _ HD1.out.1 (fun hS0 => ?_)
  clear hK K
  refine wpAnyH_take (i := 6) (v := ?_) rfl (by kernel_rfl) (by kernel_rfl) (by kernel_rfl) (fun _ _ _ h => h) (Or.inl ⟨by kernel_rfl, ?_⟩) (by assumption) ?_
  rotate_left
  · intro w hSw; (try dsimp only at hSw); go_simp; (try with_reducible rfl)
  refine wpAnyH_take (i := 9) (v := ?_) rfl (by kernel_rfl) (by kernel_rfl) (by kernel_rfl) (fun _ _ _ h => h) (Or.inl ⟨by kernel_rfl, ?_⟩) (by assumption) ?_
  rotate_left
  · intro w hSw; (try dsimp only at hSw); go_simp; (try with_reducible rfl)
  refine wpAnyH_ready (rs := [14]) (by kernel_rfl) (by simp) ?_
  refine AllReadyH.cons rfl (fun K hK => ?_) AllReadyH.nil
  go_simp
  refine (HV.out _).mono ?_
  rintro x z2 ⟨rfl, hb2⟩
  have HD2 : Hid (LBox z2 w.heap.size (k, v) ∧ w.heap.size < z2.heap.size ∧ Below w.heap.size w z2 ∧ BookW z2 lo hi P T) := Lib.hid ⟨HD1.out.1.below HD1.out.2.1 hb2, Nat.lt_of_lt_of_le HD1.out.2.1 hb2.size, HD1.out.2.2.1.trans (hb2.mono HD1.out.2.2.1.size), HD1.out.2.2.2.below hb2⟩
  clear hb2 HD1 hS0
  refine hK.out _ _ HD2.out.1 (fun hS0 => ?_)
  clear hK K
  refine wpAnyH_take (i := 15) (v := ?_) rfl (by kernel_rfl) (by kernel_rfl) (by kernel_rfl) (fun _ _ _ h => h) (Or.inl ⟨by kernel_rfl, ?_⟩) (by assumption) ?_
  rotate_left
  · intro w hSw; (try dsimp only at hSw); go_simp; (try with_reducible rfl)
  refine wpAnyH_take (i := 18) (v := ?_) rfl (by kernel_rfl) (by kernel_rfl) (by kernel_rfl) (fun _ _ _ h => h) (Or.inl ⟨by kernel_rfl, ?_⟩) (by assumption) ?_
  rotate_left
  · intro w hSw; (try dsimp only at hSw); go_simp; (try with_reducible rfl)
  refine wpAnyH_ready (rs := [19]) (by kernel_rfl) (by simp) ?_
  refine AllReadyH.cons rfl (fun K hK => ?_) AllReadyH.nil
  go_simp
  refine (r_sumW lo hi P T L _ HD2.out.2.2.2 (Nat.le_trans HS.out.2.2.1 HD2.out.2.2.1.size) HLZ.out HS.out.2.2.2).mono ?_
  rintro x z3 ⟨rfl, hbk, hkp⟩
  have HD3 : Hid (LBox z3 w.heap.size (k, v) ∧ BkPost w lo hi P (L :: T) (.string (dgT L)) (.returned (.string (dgT L))) z3) := Lib.hid ⟨HD2.out.1.keeps HD2.out.2.1 hkp (fun h => by have := HS.out.2.1; omega), BkPost.from ⟨rfl, hbk, hkp⟩ HD2.out.2.2.1⟩
  clear hbk hkp HD2 hS0
  refine hK.out _ _ HD3.out.1 (fun hS0 => ?_)
  clear hK K
  refine wpAnyH_take (i := 20) (v := ?_) rfl (by kernel_rfl) (by kernel_rfl) (by kernel_rfl) (fun _ _ _ h => h) (Or.inl ⟨by kernel_rfl, ?_⟩) (by assumption) ?_
  rotate_left
  · intro w hSw; (try dsimp only at hSw); go_simp; (try with_reducible rfl)
  refine wpAnyH_done (by kernel_rfl) ?_ _
  go_wp2
  go_ret
  exact HD3.out.2
theorem pow_lt_of {a n : Nat} (h : 2 ^ a < n) (hn : n ≤ 1000000) : 2 ^ a ≤ 1000000 := by omega
set_option maxRecDepth 100000 in
set_option maxHeartbeats 1000000 in
theorem rk_left (n : Nat) (w : World) (h2 : 2 ≤ n) (hn : n ≤ 1000000) :
    Calls Tryd.prog 58 #[.int .i64 (n : Int)] w fun x w' => x = .returned (.int .i64 (leftN n : Int)) ∧ w = w' := by
  have HN := Lib.hid (And.intro h2 hn)
  go_enter Tryd.func58, Tryd.ntmps58
  go_wp2
  go_loop [3] (fun u => ∃ k : Nat, u = .int .i64 (k : Int) ∧ k < n ∧ 1 ≤ k ∧ Hid (∃ a, k = 2 ^ a)) (fun u => n - (intOf u).toNat)
  case atStart => exact ⟨1, rfl, by omega, by omega, Lib.hid ⟨0, rfl⟩⟩
  case round =>
    obtain ⟨k, rfl, hk, hk1, HA⟩ := hrel
    have hz : IntKind.i64.wrap ((k : Int) * 2) = ((k * 2 : Nat) : Int) := by rw [IntWalk.i64_in _ (by omega)]; omega
    by_cases hlt : k * 2 < n
    · have HLT := Lib.hid hlt
      go_wp2
      go_round
      case rel =>
        refine ⟨k * 2, by go_num, HLT.out, by omega, ?_⟩
        obtain ⟨a, ha⟩ := HA.out
        exact Lib.hid ⟨a + 1, by rw [ha, Nat.pow_succ]⟩
      case measure => have := HLT.out; simp [intOf]; omega
    · have HE : Hid (leftN n = k) := Lib.hid (by
        obtain ⟨a, ha⟩ := HA.out
        rw [ha] at hk hlt ⊢
        exact leftN_of n a hk (by omega))
      go_wp2
      go_ret
      exact ⟨by rw [HE.out]; rfl, rfl⟩
set_option maxRecDepth 100000 in
set_option maxHeartbeats 1000000 in
theorem rk_top (lo hi P : Nat) (T : List ByteArray) (c : Int) (d : ByteArray) (w : World) (hB : BookW w lo hi P T) (hlo : lo ≤ w.heap.size) (hT : T.length < 1000) (hc : c ≤ 9223372036854775807) (hs : d.size ≤ 80000) :
    Calls Tryd.prog 43 #[.pointer (some ⟨P, 0, none⟩), .int .i64 c, .string d] w (BkPost w lo hi P (topT c.toNat d :: T) (.string (dgT (topT c.toNat d)))) := by
  obtain ⟨n, hn⟩ : ∃ n : Nat, n = c.toNat := ⟨_, rfl⟩
  rw [← hn]
  have HK := Lib.hid (fun w => ref_num n 8 w (by unfold M64; omega) (by decide))
  rw [be8] at HK
  have s1 : (txt (num8 n)).size = 8 := by rw [txt_size]; rfl
  have hL1 : ¬ 9223372036854775807 < 9 + d.size := by omega
  obtain ⟨L, hL⟩ : ∃ L, L = topT n d := ⟨_, rfl⟩
  have HLZ : Hid (L.size ≤ 900000000) := Lib.hid (by
    rw [hL]; unfold topT
    simp only [ByteArray.size_append, s1]
    have : (⟨#[2]⟩ : ByteArray).size = 1 := rfl
    omega)
  have hL' : (⟨#[2]⟩ ++ txt (num8 n)) ++ d = L := hL.symm
  have HS := Lib.hid (And.intro hB (And.intro hlo hT))
  rw [← hL]
  clear hB hlo hT hL
  generalize txt (num8 n) = T1 at *
  by_cases hc0 : c < 0
  · have d0 : decide (c < 0) = true := decide_eq_true hc0
    obtain rfl : n = 0 := by omega
    clear hn
    go_enter Tryd.func43, Tryd.ntmps43
    go_wp2_with fail
    refine (HK.out w).mono ?_
    rintro x w1 ⟨rfl, b1⟩
    have H1 := Lib.hid (And.intro (HS.out.1.below b1) b1)
    clear b1
    go_wp2_with fail
    refine (r_sumW lo hi P T L _ H1.out.1 (Nat.le_trans HS.out.2.1 H1.out.2.size) HLZ.out HS.out.2.2).mono ?_
    rintro x w2 ⟨rfl, hbk, hkp⟩
    have H2 : Hid (BkPost w lo hi P (L :: T) (.string (dgT L)) (.returned (.string (dgT L))) w2) := Lib.hid (BkPost.from ⟨rfl, hbk, hkp⟩ H1.out.2)
    clear hbk hkp
    go_wp2
    go_ret
    exact H2.out
  · have d0 : decide (c < 0) = false := decide_eq_false hc0
    obtain rfl : c = (n : Int) := by omega
    clear hn
    have hw1 : IntKind.u64.wrap (n : Int) = (n : Int) := IntWalk.u64_in _ (by omega)
    go_enter Tryd.func43, Tryd.ntmps43
    go_wp2_with fail
    refine (HK.out w).mono ?_
    rintro x w1 ⟨rfl, b1⟩
    have H1 := Lib.hid (And.intro (HS.out.1.below b1) b1)
    clear b1
    go_wp2_with fail
    refine (r_sumW lo hi P T L _ H1.out.1 (Nat.le_trans HS.out.2.1 H1.out.2.size) HLZ.out HS.out.2.2).mono ?_
    rintro x w2 ⟨rfl, hbk, hkp⟩
    have H2 : Hid (BkPost w lo hi P (L :: T) (.string (dgT L)) (.returned (.string (dgT L))) w2) := Lib.hid (BkPost.from ⟨rfl, hbk, hkp⟩ H1.out.2)
    clear hbk hkp
    go_wp2
    go_ret
    exact H2.out
def RDigOk (n : Nat) : Prop := ∀ (l : List PairV) (A : Option Addr) (cap : Nat) (w : World) (lo hi P : Nat) (T : List ByteArray), l.length ≤ n → 1 ≤ l.length → l.length ≤ 1000000 → Fit l → PsLo w lo A l → BookW w lo hi P T → hi ≤ w.heap.size → lo ≤ w.heap.size → l.length ≤ cap → T.length + 2 * l.length ≤ 1000 →
  Calls Tryd.prog 44 #[.pointer (some ⟨P, 0, none⟩), .slice A l.length cap] w (BkPost w lo hi P (askL l ++ T) (.string (digL l)))
set_option maxRecDepth 100000 in
set_option maxHeartbeats 4000000 in
theorem rdig_one (p : PairV) (A : Option Addr) (cap : Nat) (w : World) (lo hi P : Nat) (T : List ByteArray) (hf : Fit [p]) (hA : PsLo w lo A [p]) (hB : BookW w lo hi P T) (hhi : hi ≤ w.heap.size) (hlo : lo ≤ w.heap.size) (hT : T.length < 1000) :
    Calls Tryd.prog 44 #[.pointer (some ⟨P, 0, none⟩), .slice A 1 cap] w (BkPost w lo hi P (askL [p] ++ T) (.string (digL [p]))) := by
  obtain ⟨b, off, rfl, h0, hlt, c0, c1⟩ := hA 0 (by simp)
  simp only [Nat.zero_mul, Nat.add_zero, List.getElem_cons_zero] at c0 c1
  have HX := Lib.hid (rk_leaf lo hi P T p w hB hhi hlo hT (hf p (by simp)))
  have HD : Hid (digL [p] = dgT (leafT p) ∧ askL [p] ++ T = leafT p :: T) := Lib.hid ⟨rfl, rfl⟩
  rw [HD.out.1, HD.out.2]
  obtain ⟨k, v⟩ := p
  simp only at c0 c1 HX
  clear hf hA hB hhi hlo hT h0 hlt
  go_enter Tryd.func44, Tryd.ntmps44
  go_wp2_with fail
  refine HX.out.mono ?_
  rintro x w2 ⟨rfl, hbk, hkp⟩
  have HB : Hid (BkPost w lo hi P (leafT (k, v) :: T) (.string (dgT (leafT (k, v)))) (.returned (.string (dgT (leafT (k, v))))) w2) := Lib.hid ⟨rfl, hbk, hkp⟩
  clear hbk hkp
  go_wp2
  go_ret
  exact HB.out
set_option maxRecDepth 100000 in
set_option maxHeartbeats 4000000 in
theorem rdig_step (n : Nat) (ih : RDigOk n) : RDigOk (n + 1) := by
  intro l A cap w lo hi P T hn hl1 hm hf hA hB hhi hlo hcap hT
  by_cases h1 : l.length = 1
  · obtain ⟨p, rfl⟩ := List.length_eq_one_iff.1 h1
    exact rdig_one p A cap w lo hi P T hf hA hB hhi hlo (by simp only [List.length_cons, List.length_nil] at hT; omega)
  obtain ⟨b, off, rfl, -, -, -, -⟩ := hA 0 (by omega)
  obtain ⟨k, hk⟩ : ∃ k, k = leftN l.length := ⟨_, rfl⟩
  have hk1 : 1 ≤ k := by rw [hk]; exact leftN_pos _
  have hk2 : k < l.length := by rw [hk]; exact leftN_lt _ (by omega)
  have hlt1 : (l.take k).length = k := by rw [List.length_take]; omega
  have hld1 : (l.drop k).length = l.length - k := List.length_drop
  have ha1 := askL_len _ (l.take k) (Nat.le_refl _) (by omega)
  have ha2 := askL_len _ (l.drop k) (Nat.le_refl _) (by omega)
  have HD : Hid (digL l = dgT (nodeT (digL (l.take k)) (digL (l.drop k))) ∧ askL l ++ T = nodeT (digL (l.take k)) (digL (l.drop k)) :: (askL (l.drop k) ++ (askL (l.take k) ++ T))) := Lib.hid (by
    rw [hk]; exact ⟨digL_many l (by omega), by rw [askL_many l (by omega)]; simp⟩)
  rw [HD.out.1, HD.out.2]
  have HL := Lib.hid (fun w => rk_left l.length w (by omega) hm)
  rw [← hk] at HL
  have HIA : Hid (∀ w' cap', PsLo w' lo (some ⟨b, off, none⟩) l → BookW w' lo hi P T → hi ≤ w'.heap.size → lo ≤ w'.heap.size → k ≤ cap' → Calls Tryd.prog 44 #[.pointer (some ⟨P, 0, none⟩), .slice (some ⟨b, off, none⟩) k cap'] w' (BkPost w' lo hi P (askL (l.take k) ++ T) (.string (digL (l.take k))))) := Lib.hid (fun w' cap' h1 h2 h3 h4 h5 => by
    have := ih (l.take k) (some ⟨b, off, none⟩) cap' w' lo hi P T (by omega) (by omega) (by omega) (hf.take k) (h1.take k) h2 h3 h4 (by omega) (by omega)
    rwa [hlt1] at this)
  have HIB : Hid (∀ w' cap', PsLo w' lo (some ⟨b, off, none⟩) l → BookW w' lo hi P (askL (l.take k) ++ T) → hi ≤ w'.heap.size → lo ≤ w'.heap.size → l.length - k ≤ cap' → Calls Tryd.prog 44 #[.pointer (some ⟨P, 0, none⟩), .slice (some ⟨b, off + k * 2, none⟩) (l.length - k) cap'] w' (BkPost w' lo hi P (askL (l.drop k) ++ (askL (l.take k) ++ T)) (.string (digL (l.drop k))))) := Lib.hid (fun w' cap' h1 h2 h3 h4 h5 => by
    have := ih (l.drop k) (some ⟨b, off + k * 2, none⟩) cap' w' lo hi P (askL (l.take k) ++ T) (by omega) (by omega) (by omega) (hf.drop k) (h1.drop k) h2 h3 h4 (by omega) (by rw [List.length_append]; omega)
    rwa [hld1] at this)
  have HTL : Hid ((askL (l.drop k) ++ (askL (l.take k) ++ T)).length < 1000) := Lib.hid (by rw [List.length_append, List.length_append]; omega)
  have H := Lib.hid (And.intro hA (And.intro hB (And.intro hhi hlo)))
  have hz1 : (digL (l.take k)).size = 32 := digL_size _ (by omega)
  have hz2 : (digL (l.drop k)).size = 32 := digL_size _ (by omega)
  have hc1 : (k : Int) ≤ (cap : Int) := by omega
  have hc2 : (k : Int) ≤ (l.length : Int) := by omega
  have hc3 : ¬ cap = k := by omega
  have hc4 : (l.length : Int) ≤ (cap : Int) := by omega
  have e1 : ((l.length : Int) == 1) = false := by rw [beq_eq_false_iff_ne]; omega
  have HCK := Lib.hid (show k ≤ cap ∧ l.length - k ≤ cap - k by omega)
  clear HD hf hA hB hhi hlo hk hlt1 hld1 ha1 ha2 hT
  generalize digL (l.take k) = D1 at *
  generalize digL (l.drop k) = D2 at *
  generalize askL (l.take k) ++ T = U1 at *
  generalize askL (l.drop k) ++ U1 = U2 at *
  obtain ⟨L, hL⟩ : ∃ L, L = nodeT D1 D2 := ⟨_, rfl⟩
  have HLZ : Hid (L.size ≤ 900000000) := Lib.hid (by
    rw [hL]; unfold nodeT
    simp only [ByteArray.size_append, hz1, hz2]
    have : (⟨#[1]⟩ : ByteArray).size = 1 := rfl
    omega)
  have hL' : (⟨#[1]⟩ ++ D1) ++ D2 = L := hL.symm
  rw [← hL]
  clear hL
  go_enter Tryd.func44, Tryd.ntmps44
  go_wp2_with fail
  refine (HL.out w).mono ?_
  rintro x w1 ⟨rfl, rfl⟩
  go_wp2
  have HW : Hid (PsLo w.drew lo (some ⟨b, off, none⟩) l ∧ BookW w.drew lo hi P T ∧ hi ≤ w.drew.heap.size ∧ lo ≤ w.drew.heap.size ∧ Below w.heap.size w w.drew) := Lib.hid ⟨H.out.1.below (Below.refl _ _).drew, H.out.2.1.below (Below.refl _ _).drew, H.out.2.2.1, H.out.2.2.2, (Below.refl _ _).drew⟩
  refine wp_region_any (by kernel_rfl) ?_
  (try (change wpAny _ _ _ _ _ _ _ (World.drew _)))
  generalize w.drew = z0 at *
  refine wpAny_take (i := 0) (v := ?_) rfl (by kernel_rfl) (by kernel_rfl) (by kernel_rfl) (fun _ _ _ h => h) (Or.inl ⟨by kernel_rfl, ?_⟩) ?_
  rotate_left
  · intro w; go_simp; with_reducible rfl
  refine wpAny_take (i := 1) (v := ?_) rfl (by kernel_rfl) (by kernel_rfl) (by kernel_rfl) (fun _ _ _ h => h) (Or.inl ⟨by kernel_rfl, ?_⟩) ?_
  rotate_left
  · intro w; go_simp; with_reducible rfl
  refine wpAny_take (i := 2) (v := ?_) rfl (by kernel_rfl) (by kernel_rfl) (by kernel_rfl) (fun _ _ _ h => h) (Or.inl ⟨by kernel_rfl, ?_⟩) ?_
  rotate_left
  · intro w; go_simp; with_reducible rfl
  refine wpAny_take (i := 3) (v := ?_) rfl (by kernel_rfl) (by kernel_rfl) (by kernel_rfl) (fun _ _ _ h => h) (Or.inl ⟨by kernel_rfl, ?_⟩) ?_
  rotate_left
  · intro w; go_simp; with_reducible rfl
  refine wpAny_take (i := 4) (v := ?_) rfl (by kernel_rfl) (by kernel_rfl) (by kernel_rfl) (fun _ _ _ h => h) (Or.inl ⟨by kernel_rfl, ?_⟩) ?_
  rotate_left
  · intro w; go_simp; with_reducible rfl
  refine wpAny_take (i := 7) (v := ?_) rfl (by kernel_rfl) (by kernel_rfl) (by kernel_rfl) (fun _ _ _ h => h) (Or.inl ⟨by kernel_rfl, ?_⟩) ?_
  rotate_left
  · intro w; go_simp; with_reducible rfl
  refine wpAny_take (i := 8) (v := ?_) rfl (by kernel_rfl) (by kernel_rfl) (by kernel_rfl) (fun _ _ _ h => h) (Or.inl ⟨by kernel_rfl, ?_⟩) ?_
  rotate_left
  · intro w; go_simp; with_reducible rfl
  refine wpAny_take (i := 9) (v := ?_) rfl (by kernel_rfl) (by kernel_rfl) (by kernel_rfl) (fun _ _ _ h => h) (Or.inl ⟨by kernel_rfl, ?_⟩) ?_
  rotate_left
  · intro w; go_simp; with_reducible rfl
  refine wpAny_take (i := 10) (v := ?_) rfl (by kernel_rfl) (by kernel_rfl) (by kernel_rfl) (fun _ _ _ h => h) (Or.inl ⟨by kernel_rfl, ?_⟩) ?_
  rotate_left
  · intro w; go_simp; with_reducible rfl
  refine wpAny_ready (rs := [5]) (by kernel_rfl) (by simp) ?_
  refine AllReady.cons rfl (fun K hK => ?_) AllReady.nil
  go_simp
  refine (HIA.out _ _ HW.out.1 HW.out.2.1 HW.out.2.2.1 HW.out.2.2.2.1 HCK.out.1).mono ?_
  rintro x z1 ⟨rfl, hbk, hkp⟩
  have HW1 : Hid (PsLo z1 lo (some ⟨b, off, none⟩) l ∧ BookW z1 lo hi P U1 ∧ hi ≤ z1.heap.size ∧ lo ≤ z1.heap.size ∧ BkPost w lo hi P U1 (.string D1) (.returned (.string D1)) z1) := Lib.hid ⟨HW.out.1.keeps hkp (fun k h => h.1), hbk, Nat.le_trans HW.out.2.2.1 hkp.size, Nat.le_trans HW.out.2.2.2.1 hkp.size, BkPost.from ⟨rfl, hbk, hkp⟩ HW.out.2.2.2.2⟩
  clear hbk hkp HW
  (first | (refine hK _ _ ?_; clear hK K) | skip)
  refine wpAny_take (i := 6) (v := ?_) rfl (by kernel_rfl) (by kernel_rfl) (by kernel_rfl) (fun _ _ _ h => h) (Or.inl ⟨by kernel_rfl, ?_⟩) ?_
  rotate_left
  · intro w; go_simp; with_reducible rfl
  refine wpAny_ready (rs := [11]) (by kernel_rfl) (by simp) ?_
  refine AllReady.cons rfl (fun K hK => ?_) AllReady.nil
  go_simp
  refine (HIB.out _ _ HW1.out.1 HW1.out.2.1 HW1.out.2.2.1 HW1.out.2.2.2.1 HCK.out.2).mono ?_
  rintro x z2 ⟨rfl, hbk, hkp⟩
  have HW2 : Hid (BookW z2 lo hi P U2 ∧ lo ≤ z2.heap.size ∧ Kq.Keeps (fun k => lo ≤ k ∧ k < hi) w z2) := Lib.hid ⟨hbk, Nat.le_trans HW1.out.2.2.2.1 hkp.size, HW1.out.2.2.2.2.2.2.trans hkp⟩
  clear hbk hkp HW1
  (first | (refine hK _ _ ?_; clear hK K) | skip)
  refine wpAny_take (i := 12) (v := ?_) rfl (by kernel_rfl) (by kernel_rfl) (by kernel_rfl) (fun _ _ _ h => h) (Or.inl ⟨by kernel_rfl, ?_⟩) ?_
  rotate_left
  · intro w; go_simp; with_reducible rfl
  refine wpAny_ready (rs := [13]) (by kernel_rfl) (by simp) ?_
  refine AllReady.cons rfl (fun K hK => ?_) AllReady.nil
  go_simp
  refine (r_sumW lo hi P U2 L _ HW2.out.1 HW2.out.2.1 HLZ.out HTL.out).mono ?_
  rintro x z3 ⟨rfl, hbk, hkp⟩
  have HW3 : Hid (BkPost w lo hi P (L :: U2) (.string (dgT L)) (.returned (.string (dgT L))) z3) := Lib.hid ⟨rfl, hbk, HW2.out.2.2.trans hkp⟩
  clear hbk hkp HW2
  (first | (refine hK _ _ ?_; clear hK K) | skip)
  refine wpAny_take (i := 14) (v := ?_) rfl (by kernel_rfl) (by kernel_rfl) (by kernel_rfl) (fun _ _ _ h => h) (Or.inl ⟨by kernel_rfl, ?_⟩) ?_
  rotate_left
  · intro w; go_simp; with_reducible rfl
  refine wpAny_done (by kernel_rfl) ?_ _
  go_wp2
  go_ret
  exact HW3.out
theorem rk_digest : ∀ n : Nat, RDigOk n := by
  intro n
  induction n with
  | zero => exact fun l A cap w lo hi P T h1 h2 => absurd h2 (by omega)
  | succ n ih => exact rdig_step n ih
/-- the texts that are digested for a root -/
def askR (l : List PairV) : List ByteArray := topT l.length (digL l) :: askL l
set_option maxRecDepth 100000 in
set_option maxHeartbeats 1000000 in
theorem rk_root (lo hi P : Nat) (T : List ByteArray) (l : List PairV) (A : Option Addr) (cap : Nat) (w : World) (hm : l.length ≤ 1000000) (hf : Fit l) (hA : PsLo w lo A l) (hB : BookW w lo hi P T) (hhi : hi ≤ w.heap.size) (hlo : lo ≤ w.heap.size) (hcap : l.length ≤ cap) (hT : T.length + 2 * l.length < 1000) :
    Calls Tryd.prog 35 #[.pointer (some ⟨P, 0, none⟩), .slice A l.length cap] w (BkPost w lo hi P (askR l ++ T) (.string (dgT (topT l.length (digL l))))) := by
  by_cases h0 : l.length = 0
  · obtain rfl : l = [] := List.eq_nil_of_length_eq_zero h0
    have HX := Lib.hid (rk_top lo hi P T 0 ⟨#[]⟩ w hB hlo (by simp only [List.length_nil] at hT; omega) (by decide) (by decide))
    have HE : Hid (askR [] ++ T = topT (0 : Int).toNat ⟨#[]⟩ :: T ∧ topT ([] : List PairV).length (digL []) = topT (0 : Int).toNat ⟨#[]⟩) := Lib.hid ⟨rfl, rfl⟩
    rw [HE.out.1, HE.out.2]
    clear hf hA hB hT HE
    generalize topT (0 : Int).toNat ⟨#[]⟩ = L at *
    go_enter Tryd.func35, Tryd.ntmps35
    go_wp2_with fail
    refine HX.out.mono ?_
    rintro x w2 ⟨rfl, hbk, hkp⟩
    have HB : Hid (BkPost w lo hi P (L :: T) (.string (dgT L)) (.returned (.string (dgT L))) w2) := Lib.hid ⟨rfl, hbk, hkp⟩
    clear hbk hkp
    go_wp2
    go_ret
    exact HB.out
  · have e0 : ((l.length : Int) == 0) = false := by rw [beq_eq_false_iff_ne]; omega
    have hal := askL_len _ l (Nat.le_refl _) (by omega)
    have HX := Lib.hid (rk_digest l.length l A cap w lo hi P T (Nat.le_refl _) (by omega) hm hf hA hB hhi hlo hcap (by omega))
    have HS := Lib.hid (show (askL l ++ T).length < 1000 ∧ (digL l).size ≤ 80000 ∧ lo ≤ w.heap.size from ⟨by rw [List.length_append]; omega, by have := digL_small l; omega, hlo⟩)
    have HE : Hid (askR l ++ T = topT l.length (digL l) :: (askL l ++ T)) := Lib.hid rfl
    rw [HE.out]
    clear hf hA hB hhi hlo hT HE hal
    generalize askL l ++ T = U at *
    generalize digL l = D at *
    go_enter Tryd.func35, Tryd.ntmps35
    go_wp2_with fail
    refine HX.out.mono ?_
    rintro x w1 ⟨rfl, hbk, hkp⟩
    have H1 := Lib.hid (And.intro hbk hkp)
    clear hbk hkp
    go_wp2_with fail
    refine (rk_top lo hi P U (l.length : Int) D w1 H1.out.1 (Nat.le_trans HS.out.2.2 H1.out.2.size) HS.out.1 (by omega) HS.out.2.1).mono ?_
    rw [Int.toNat_natCast]
    rintro x w2 ⟨rfl, hbk, hkp⟩
    have HB : Hid (BkPost w lo hi P (topT l.length D :: U) (.string (dgT (topT l.length D))) (.returned (.string (dgT (topT l.length D)))) w2) := Lib.hid ⟨rfl, hbk, H1.out.2.trans hkp⟩
    clear hbk hkp
    go_wp2
    go_ret
    exact HB.out
end Go.Proofs.YtcknhnbckbocjaaDoor
