/- Merged: RkU, RkV. Contracts of carrackref08.Depth, up. Condition: sizes. Contract of carrackref08.Climb. Condition: sizes. -/
import Derived.WalkSpells
import Derived.Outline
import Derived.Deep.RegionHeld
import Derived.Test.YtclloplkbajebaaDoorRkAQ
import Derived.Test.YtclloplkbajebaaDoorMkVQ
import Derived.Deep.QuietTactic
import Derived.BigQuiet
namespace Go.Proofs.YtclloplkbajebaaDoor
open Go.RowKit
set_option linter.unusedVariables false
def DepOk (n : Nat) : Prop := ∀ (i c : Nat) (w : World), c ≤ n → 1 ≤ c → c ≤ 4096 → i < c → Calls Tryd.prog 85 #[.int .i64 (i : Int), .int .i64 (c : Int)] w fun x w' => x = .returned (.int .i64 (dep i c : Int)) ∧ w = w'
set_option maxRecDepth 100000 in
set_option maxHeartbeats 2000000 in
theorem dep_step (n : Nat) (ih : DepOk n) : DepOk (n + 1) := by
  intro i c w hn h1 hc hi
  by_cases h2 : c = 1
  · subst h2
    have HD : Hid (dep i 1 = 0) := Lib.hid (dep_one i 1 (by omega))
    clear h1 hc hi hn
    go_enter Tryd.func85, Tryd.ntmps85
    go_wp2
    go_ret
    exact ⟨by rw [HD.out]; rfl, rfl⟩
  obtain ⟨k, hk⟩ : ∃ k, k = leftN c := ⟨_, rfl⟩
  have hk1 : 1 ≤ k := by rw [hk]; exact leftN_pos _
  have hk2 : k < c := by rw [hk]; exact leftN_lt _ (by omega)
  have hdm := dep_many i c (by omega)
  rw [← hk] at hdm
  have HL := Lib.hid (fun w => rk_left c w (by omega) (by omega))
  rw [← hk] at HL
  have e1 : ((c : Int) == 1) = false := by rw [beq_eq_false_iff_ne]; omega
  clear hk h2
  by_cases hik : i < k
  · have d3 : decide ((i : Int) < (k : Int)) = true := decide_eq_true (by omega)
    have d4 : decide (i < k) = true := decide_eq_true hik
    have HX := Lib.hid (ih i k w (by omega) hk1 (by omega) hik)
    have HD := Lib.hid (hdm.1 hik)
    have hb : dep i k ≤ 4096 := by have := dep_lt k i k (Nat.le_refl _) hk1; omega
    generalize dep i k = d at *
    clear hdm
    go_enter Tryd.func85, Tryd.ntmps85
    go_wp2_with fail
    refine (HL.out w).mono ?_
    rintro x w1 ⟨rfl, rfl⟩
    go_wp2_with fail
    refine HX.out.mono ?_
    rintro x w1 ⟨rfl, rfl⟩
    go_wp2
    go_ret
    exact ⟨by rw [HD.out]; exact congrArg (fun z => Ending.returned (Value.int .i64 z)) (by omega), rfl⟩
  · have d3 : decide ((i : Int) < (k : Int)) = false := decide_eq_false (by omega)
    have d4 : decide (i < k) = false := decide_eq_false hik
    obtain ⟨i2, hi2⟩ : ∃ i2, i2 = i - k := ⟨_, rfl⟩
    obtain ⟨c2, hc2⟩ : ∃ c2, c2 = c - k := ⟨_, rfl⟩
    rw [← hi2, ← hc2] at hdm
    have hw1 : IntKind.i64.wrap ((i : Int) - (k : Int)) = (i2 : Int) := by rw [IntWalk.i64_in _ (by omega)]; omega
    have hw2 : IntKind.i64.wrap ((c : Int) - (k : Int)) = (c2 : Int) := by rw [IntWalk.i64_in _ (by omega)]; omega
    have hw3 : wrap64 ((i : Int) - (k : Int)) = (i2 : Int) := by rw [IntWalk.wrap64_in _ (by omega)]; omega
    have hw4 : wrap64 ((c : Int) - (k : Int)) = (c2 : Int) := by rw [IntWalk.wrap64_in _ (by omega)]; omega
    have hw5 : (i : Int) - (k : Int) = (i2 : Int) := by omega
    have hw6 : (c : Int) - (k : Int) = (c2 : Int) := by omega
    have HX := Lib.hid (ih i2 c2 w (by omega) (by omega) (by omega) (by omega))
    have HD := Lib.hid (hdm.2 hik)
    have hb : dep i2 c2 ≤ 4096 := by have := dep_lt c2 i2 c2 (Nat.le_refl _) (by omega); omega
    have hiB : i2 ≤ 4096 := by omega
    have hcB : c2 ≤ 4096 := by omega
    generalize dep i2 c2 = d at *
    clear hdm hi2 hc2
    go_enter Tryd.func85, Tryd.ntmps85
    go_wp2_with fail
    refine (HL.out w).mono ?_
    rintro x w1 ⟨rfl, rfl⟩
    go_wp2_with fail
    refine HX.out.mono ?_
    rintro x w1 ⟨rfl, rfl⟩
    go_wp2
    go_ret
    exact ⟨by rw [HD.out]; exact congrArg (fun z => Ending.returned (Value.int .i64 z)) (by omega), rfl⟩
theorem rk_depth : ∀ n : Nat, DepOk n := by
  intro n
  induction n with
  | zero => exact fun i c w h1 h2 => absurd h2 (by omega)
  | succ n ih => exact dep_step n ih
/-- texts in memory, below the book -/
def TxLo (w : World) (lo : Nat) (A : Option Addr) (l : List ByteArray) : Prop := ∀ i (h : i < l.length), ∃ g o, A = some ⟨g, o, none⟩ ∧ g < lo ∧ g < w.heap.size ∧ w.cell? ⟨g, o + i, none⟩ = some (.string l[i])
theorem TxLo.at {w : World} {lo : Nat} {A : Option Addr} {l : List ByteArray} (h : TxLo w lo A l) : PartsAt w A l := fun j hj => by
  obtain ⟨b, off, rfl, _, h1, h2⟩ := h j hj
  exact ⟨b, off, rfl, h1, h2⟩
theorem TxLo.keeps {w w' : World} {lo : Nat} {A : Option Addr} {l : List ByteArray} {S : Nat → Prop} (h : TxLo w lo A l) (hk : Kq.Keeps S w w') (hS : ∀ k, S k → lo ≤ k) : TxLo w' lo A l := fun j hj => by
  obtain ⟨b, off, rfl, h0, h1, h2⟩ := h j hj
  have hb := hk.block b h1 (fun hs => by have := hS b hs; omega)
  exact ⟨b, off, rfl, h0, Nat.lt_of_lt_of_le h1 hk.size, by rw [World.cell?_of_block hb]; exact h2⟩
theorem TxLo.below {w w' : World} {lo : Nat} {A : Option Addr} {l : List ByteArray} (h : TxLo w lo A l) (hb : Below w.heap.size w w') : TxLo w' lo A l :=
  h.keeps (Kq.Keeps.of_below (S := fun _ => False) hb (fun k h1 h2 => absurd h1 (Nat.not_le.2 h2))) (fun k hk => hk.elim)
theorem TxLo.raise {w : World} {lo lo' : Nat} {A : Option Addr} {l : List ByteArray} (h : TxLo w lo A l) (hl : lo ≤ lo') : TxLo w lo' A l := fun j hj => by
  obtain ⟨b, off, rfl, h0, h1, h2⟩ := h j hj
  exact ⟨b, off, rfl, Nat.lt_of_lt_of_le h0 hl, h1, h2⟩
/-- texts in memory, none of them in the book's blocks -/
def TxO (w : World) (lo hi : Nat) (A : Option Addr) (l : List ByteArray) : Prop := ∀ i (h : i < l.length), ∃ g o, A = some ⟨g, o, none⟩ ∧ (g < lo ∨ hi ≤ g) ∧ g < w.heap.size ∧ w.cell? ⟨g, o + i, none⟩ = some (.string l[i])
theorem TxO.at {w : World} {lo hi : Nat} {A : Option Addr} {l : List ByteArray} (h : TxO w lo hi A l) : PartsAt w A l := fun j hj => by
  obtain ⟨b, off, rfl, _, h1, h2⟩ := h j hj
  exact ⟨b, off, rfl, h1, h2⟩
theorem TxO.keeps {w w' : World} {lo hi : Nat} {A : Option Addr} {l : List ByteArray} {S : Nat → Prop} (h : TxO w lo hi A l) (hk : Kq.Keeps S w w') (hS : ∀ k, S k → lo ≤ k ∧ k < hi) : TxO w' lo hi A l := fun j hj => by
  obtain ⟨b, off, rfl, h0, h1, h2⟩ := h j hj
  have hb := hk.block b h1 (fun hs => by have := hS b hs; omega)
  exact ⟨b, off, rfl, h0, Nat.lt_of_lt_of_le h1 hk.size, by rw [World.cell?_of_block hb]; exact h2⟩
theorem TxO.below {w w' : World} {lo hi : Nat} {A : Option Addr} {l : List ByteArray} (h : TxO w lo hi A l) (hb : Below w.heap.size w w') : TxO w' lo hi A l :=
  h.keeps (Kq.Keeps.of_below (S := fun _ => False) hb (fun k h1 h2 => absurd h1 (Nat.not_le.2 h2))) (fun k hk => hk.elim)
theorem TxLo.o {w : World} {lo : Nat} {A : Option Addr} {l : List ByteArray} (h : TxLo w lo A l) (hi : Nat) : TxO w lo hi A l := fun j hj => by
  obtain ⟨b, off, rfl, h0, h1, h2⟩ := h j hj
  exact ⟨b, off, rfl, Or.inl h0, h1, h2⟩
structure XBox (w : World) (X : Nat) (idx cnt : Int) (p : PairV) (v : Value) : Prop where
  bx : w.heap[X]? = some (.cells #[.int .i64 idx, .int .i64 cnt, .string p.1, .string p.2, v] 30 (0, 0))
theorem XBox.keeps {w w' : World} {X : Nat} {idx cnt : Int} {p : PairV} {v : Value} {S : Nat → Prop} (h : XBox w X idx cnt p v) (hk : Kq.Keeps S w w') (hS : ¬ S X) : XBox w' X idx cnt p v := ⟨hk.blk h.bx hS⟩
theorem XBox.below {w w' : World} {X : Nat} {idx cnt : Int} {p : PairV} {v : Value} (h : XBox w X idx cnt p v) (hb : Below w.heap.size w w') : XBox w' X idx cnt p v := ⟨Kq.below_blk hb h.bx (Kq.blk_lt h.bx)⟩
section
variable {w : World} {X : Nat} {idx cnt : Int} {p : PairV} {v : Value} (h : XBox w X idx cnt p v)
include h
theorem XBox.c0 : w.cell? ⟨X, 0, none⟩ = some (.int .i64 idx) := Kq.blk_cell h.bx 0
theorem XBox.c1 : w.cell? ⟨X, 1, none⟩ = some (.int .i64 cnt) := Kq.blk_cell h.bx 1
theorem XBox.c2 : w.cell? ⟨X, 2, none⟩ = some (.string p.1) := Kq.blk_cell h.bx 2
theorem XBox.c3 : w.cell? ⟨X, 3, none⟩ = some (.string p.2) := Kq.blk_cell h.bx 3
theorem XBox.c4 : w.cell? ⟨X, 4, none⟩ = some v := Kq.blk_cell h.bx 4
end
def RUpOk (idx cnt : Int) (p : PairV) (ps : List ByteArray) (n : Nat) : Prop := ∀ (i c : Nat) (A : Option Addr) (cap : Nat) (lo hi P : Nat) (T : List ByteArray) (w : World), c ≤ n → 1 ≤ c → c ≤ 4096 → i < c → dep i c ≤ ps.length → p.1.size + p.2.size ≤ 90000 → ps.length ≤ 100 → All32 ps → TxO w lo hi A ps → BookW w lo hi P T → hi ≤ w.heap.size → lo ≤ w.heap.size → T.length + dep i c < 1000 →
  Calls Tryd.prog 86 #[.pointer (some ⟨P, 0, none⟩), .agg #[.int .i64 idx, .int .i64 cnt, .string p.1, .string p.2, .slice A ps.length cap], .int .i64 (i : Int), .int .i64 (c : Int)] w (BkPost w lo hi P (askU p i c (ps.take (dep i c)) ++ T) (.string (up p i c (ps.take (dep i c))).1))
set_option maxRecDepth 100000 in
set_option maxHeartbeats 2000000 in
theorem rup_one (idx cnt : Int) (p : PairV) (ps : List ByteArray) (i : Nat) (A : Option Addr) (cap : Nat) (lo hi P : Nat) (T : List ByteArray) (w : World) (hs : p.1.size + p.2.size ≤ 90000) (hB : BookW w lo hi P T) (hhi : hi ≤ w.heap.size) (hlo : lo ≤ w.heap.size) (hT : T.length < 1000) :
    Calls Tryd.prog 86 #[.pointer (some ⟨P, 0, none⟩), .agg #[.int .i64 idx, .int .i64 cnt, .string p.1, .string p.2, .slice A ps.length cap], .int .i64 (i : Int), .int .i64 1] w (BkPost w lo hi P (leafT p :: T) (.string (dgT (leafT p)))) := by
  have hb0 := Kq.below_alloc w (.cells #[.int .i64 idx, .int .i64 cnt, .string p.1, .string p.2, .slice A ps.length cap] 30)
  have HX : Hid (XBox (w.alloc (.cells #[.int .i64 idx, .int .i64 cnt, .string p.1, .string p.2, .slice A ps.length cap] 30)) w.heap.size idx cnt p (.slice A ps.length cap)) := Lib.hid ⟨Kq.blk_new _ _ _ _⟩
  have HL := Lib.hid (rk_leaf lo hi P T p _ (hB.below hb0) (Nat.le_trans hhi hb0.size) (Nat.le_trans hlo hb0.size) hT hs)
  have HB0 := Lib.hid hb0
  have c2 := HX.out.c2
  have c3 := HX.out.c3
  obtain ⟨k, v⟩ := p
  simp only at c2 c3 HL HB0 ⊢
  clear hs hB hhi hlo hT hb0 HX
  generalize dgT (leafT (k, v)) = D at *
  generalize leafT (k, v) :: T = U at *
  go_enter Tryd.func86, Tryd.ntmps86
  go_wp2_with fail
  refine HL.out.mono ?_
  intro x w2 hp
  have HP := Lib.hid (BkPost.from hp HB0.out)
  obtain ⟨rfl, -⟩ := hp
  clear HL c2 c3
  go_wp2
  go_ret
  exact HP.out
def UBox (w' : World) (X b o : Nat) (v : Value) (E : ByteArray) (idx cnt : Int) (k u : ByteArray) : Prop := w'.cell? ⟨X, 4, none⟩ = some v ∧ w'.cell? ⟨b, o, none⟩ = some (.string E) ∧ w'.cell? ⟨X, 0, none⟩ = some (.int .i64 idx) ∧ w'.cell? ⟨X, 1, none⟩ = some (.int .i64 cnt) ∧ w'.cell? ⟨X, 2, none⟩ = some (.string k) ∧ w'.cell? ⟨X, 3, none⟩ = some (.string u)
set_option maxRecDepth 100000 in
set_option maxHeartbeats 4000000 in
theorem rup_left (idx cnt : Int) (p : PairV) (ps : List ByteArray) (n : Nat) (ih : RUpOk idx cnt p ps n) (i c : Nat) (A : Option Addr) (cap : Nat) (lo hi P : Nat) (T : List ByteArray) (w : World) (hcn : c ≤ n + 1) (h2 : 2 ≤ c) (hc : c ≤ 4096) (hi_ : i < c) (hdp : dep i c ≤ ps.length) (hs : p.1.size + p.2.size ≤ 90000) (hn : ps.length ≤ 100) (h32 : All32 ps) (hA : TxO w lo hi A ps) (hB : BookW w lo hi P T) (hhi : hi ≤ w.heap.size) (hlo : lo ≤ w.heap.size) (hT : T.length + dep i c < 1000) (hik : i < leftN c) :
    Calls Tryd.prog 86 #[.pointer (some ⟨P, 0, none⟩), .agg #[.int .i64 idx, .int .i64 cnt, .string p.1, .string p.2, .slice A ps.length cap], .int .i64 (i : Int), .int .i64 (c : Int)] w (BkPost w lo hi P (askU p i c (ps.take (dep i c)) ++ T) (.string (up p i c (ps.take (dep i c))).1)) := by
  have hde := (dep_many i c h2).1 hik
  obtain ⟨k, hk⟩ : ∃ k, k = leftN c := ⟨_, rfl⟩
  have hk1 : 1 ≤ k := by rw [hk]; exact leftN_pos _
  have hk2 : k < c := by rw [hk]; exact leftN_lt _ h2
  have HL := Lib.hid (fun w => rk_left c w h2 (by omega))
  have hum := fun path (h : List.length path ≠ 0) => (up_many p i c path h2 h).1 hik
  have ham := fun path => (askU_many p i c path h2).1 hik
  rw [← hk] at HL hik hde
  rw [← hk] at hum ham
  clear hk
  obtain ⟨d, hd⟩ : ∃ d, d = dep i k := ⟨_, rfl⟩
  rw [← hd] at hde
  have HDP := Lib.hid (fun w => rk_depth c i c w (Nat.le_refl _) (by omega) hc hi_)
  rw [hde] at HDP hdp hT ⊢
  have hpl : (ps.take (d + 1)).length = d + 1 := by rw [List.length_take]; omega
  have hum' := hum (ps.take (d + 1)) (by omega)
  have ham' := ham (ps.take (d + 1))
  rw [hpl, Nat.add_sub_cancel, List.take_take, Nat.min_eq_left (Nat.le_succ d)] at hum' ham'
  have hg : (ps.take (d + 1)).getD d ⟨#[]⟩ = ps[d]'(by omega) := by rw [List.getD_eq_getElem?_getD, List.getElem?_take_of_lt (by omega), List.getElem?_eq_getElem (by omega)]; rfl
  obtain ⟨b, off, rfl, hb0, hlt, cm⟩ := hA d (by omega)
  rw [← hg] at cm
  have hz : ((ps.take (d + 1)).getD d ⟨#[]⟩).size = 32 := by rw [hg]; exact h32 _ (List.getElem_mem _)
  generalize (ps.take (d + 1)).getD d ⟨#[]⟩ = E at *
  have hsz := (up_size p k i k (ps.take d) (Nat.le_refl _) (by omega)).1
  have hal := askU_len p k i k (ps.take d) (Nat.le_refl _) (by omega)
  have HIH : Hid (∀ w', TxO w' lo hi (some ⟨b, off, none⟩) ps → BookW w' lo hi P T → hi ≤ w'.heap.size → lo ≤ w'.heap.size → Calls Tryd.prog 86 #[.pointer (some ⟨P, 0, none⟩), .agg #[.int .i64 idx, .int .i64 cnt, .string p.1, .string p.2, .slice (some ⟨b, off, none⟩) ps.length cap], .int .i64 (i : Int), .int .i64 (k : Int)] w' (BkPost w' lo hi P (askU p i k (ps.take d) ++ T) (.string (up p i k (ps.take d)).1))) := Lib.hid (fun w' h1 h2' h3 h4 => by
    have := ih i k (some ⟨b, off, none⟩) cap lo hi P T w' (by omega) (by omega) (by omega) (by omega) (by rw [← hd]; omega) hs hn h32 h1 h2' h3 h4 (by rw [← hd]; omega)
    rwa [← hd] at this)
  rw [hum', ham']
  have HTL : Hid ((askU p i k (ps.take d) ++ T).length < 1000) := Lib.hid (by rw [List.length_append, hal, ← hd]; omega)
  have hdB : d ≤ 100 := by omega
  clear hum ham hum' ham' hg hde hpl
  generalize up p i k (ps.take d) = R at *
  obtain ⟨D, ok⟩ := R
  simp only at hsz HIH ⊢
  obtain ⟨L, hL⟩ : ∃ L, L = nodeT D E := ⟨_, rfl⟩
  rw [List.cons_append, ← hL]
  generalize askU p i k (ps.take d) ++ T = U at *
  have HLZ : Hid (L.size ≤ 900000000) := Lib.hid (by
    rw [hL]; unfold nodeT
    simp only [ByteArray.size_append]
    have : (⟨#[1]⟩ : ByteArray).size = 1 := rfl
    omega)
  have hL' : (⟨#[1]⟩ ++ D) ++ E = L := hL.symm
  have hsB : D.size ≤ 32 := by omega
  have hl1 : ¬ 9223372036854775807 < 1 + D.size := by omega
  have hl2 : ¬ 9223372036854775807 < 1 + D.size + 32 := by omega
  have hl3 : ¬ 9223372036854775807 < 33 + D.size := by omega
  have d3 : decide ((i : Int) < (k : Int)) = true := decide_eq_true (by omega)
  have d4 : decide (i < k) = true := decide_eq_true hik
  have e1 : ((c : Int) == 1) = false := by rw [beq_eq_false_iff_ne]; omega
  have hq1 : IntKind.i64.wrap (((d + 1 : Nat) : Int) - 1) = (d : Int) := by rw [IntWalk.i64_in _ (by omega)]; omega
  have hq3 : (d : Int) < (ps.length : Int) := by omega
  obtain ⟨dd, hdd⟩ : ∃ dd, dd = d + 1 := ⟨_, rfl⟩
  rw [← hdd] at HDP hq1
  have hba := Kq.below_alloc w (.cells #[.int .i64 idx, .int .i64 cnt, .string p.1, .string p.2, .slice (some ⟨b, off, none⟩) ps.length cap] 30)
  have HD : Hid (XBox (w.alloc (.cells #[.int .i64 idx, .int .i64 cnt, .string p.1, .string p.2, .slice (some ⟨b, off, none⟩) ps.length cap] 30)).drew w.heap.size idx cnt p (.slice (some ⟨b, off, none⟩) ps.length cap) ∧ TxO (w.alloc (.cells #[.int .i64 idx, .int .i64 cnt, .string p.1, .string p.2, .slice (some ⟨b, off, none⟩) ps.length cap] 30)).drew lo hi (some ⟨b, off, none⟩) ps ∧ BookW (w.alloc (.cells #[.int .i64 idx, .int .i64 cnt, .string p.1, .string p.2, .slice (some ⟨b, off, none⟩) ps.length cap] 30)).drew lo hi P T ∧ Below w.heap.size w (w.alloc (.cells #[.int .i64 idx, .int .i64 cnt, .string p.1, .string p.2, .slice (some ⟨b, off, none⟩) ps.length cap] 30)).drew ∧ (w.alloc (.cells #[.int .i64 idx, .int .i64 cnt, .string p.1, .string p.2, .slice (some ⟨b, off, none⟩) ps.length cap] 30)).drew.cell? ⟨b, off + d, none⟩ = some (.string E)) :=
    Lib.hid ⟨⟨Kq.blk_new _ _ _ _⟩, hA.below hba.drew, hB.below hba.drew, hba.drew, (hba.cell (p := ⟨b, off + d, none⟩) hlt).trans cm⟩
  have HH := Lib.hid (And.intro hhi hlo)
  obtain ⟨kk, vv⟩ := p
  simp only at HD HIH ⊢
  clear hA hB hhi hlo hT hba cm hlt hb0 h32 hs hdp hdd hd hL hal hsz hik hi_ hcn
  go_enter Tryd.func86, Tryd.ntmps86
  go_wp2_with fail
  refine (HL.out _).mono ?_
  rintro x w1 ⟨rfl, rfl⟩
  go_wp2
  refine wp_region_held_drew (S := fun w' => UBox w' w.heap.size b (off + d) (.slice (some ⟨b, off, none⟩) ps.length cap) E idx cnt kk vv) (by kernel_rfl) ⟨HD.out.1.c4, HD.out.2.2.2.2, HD.out.1.c0, HD.out.1.c1, HD.out.1.c2, HD.out.1.c3⟩ (fun hS0 => ?_)
  generalize (w.alloc (.cells #[.int .i64 idx, .int .i64 cnt, .string kk, .string vv, .slice (some ⟨b, off, none⟩) ps.length cap] 30)).drew = z0 at *
  unfold UBox at hS0
  dsimp only [UBox]
  refine wpAnyH_take (i := 0) (v := ?_) rfl (by kernel_rfl) (by kernel_rfl) (by kernel_rfl) (fun _ _ _ h => h) (Or.inl ⟨by kernel_rfl, ?_⟩) (by assumption) ?_
  rotate_left
  · intro w hSw; (try dsimp only at hSw); go_simp; (try with_reducible rfl)
  refine wpAnyH_take (i := 1) (v := ?_) rfl (by kernel_rfl) (by kernel_rfl) (by kernel_rfl) (fun _ _ _ h => h) (Or.inl ⟨by kernel_rfl, ?_⟩) (by assumption) ?_
  rotate_left
  · intro w hSw; (try dsimp only at hSw); go_simp; (try with_reducible rfl)
  refine wpAnyH_take (i := 2) (v := ?_) rfl (by kernel_rfl) (by kernel_rfl) (by kernel_rfl) (fun _ _ _ h => h) (Or.inl ⟨by kernel_rfl, ?_⟩) (by assumption) ?_
  rotate_left
  · intro w hSw; (try dsimp only at hSw); go_simp; (try with_reducible rfl)
  refine wpAnyH_take (i := 3) (v := ?_) rfl (by kernel_rfl) (by kernel_rfl) (by kernel_rfl) (fun _ _ _ h => h) (Or.inl ⟨by kernel_rfl, ?_⟩) (by assumption) ?_
  rotate_left
  · intro w hSw; (try dsimp only at hSw); go_simp; (try with_reducible rfl)
  refine wpAnyH_ready (rs := [4]) (by kernel_rfl) (by simp) ?_
  refine AllReadyH.cons rfl (fun K hK => ?_) AllReadyH.nil
  go_simp
  refine (HDP.out z0).mono ?_
  rintro x z1 ⟨rfl, rfl⟩
  refine hK.out _ _ hS0 (fun hS0 => ?_)
  clear hK K
  refine wpAnyH_take (i := 5) (v := ?_) rfl (by kernel_rfl) (by kernel_rfl) (by kernel_rfl) (fun _ _ _ h => h) (Or.inl ⟨by kernel_rfl, ?_⟩) (by assumption) ?_
  rotate_left
  · intro w hSw; (try dsimp only at hSw); go_simp; (try with_reducible rfl)
  refine wpAnyH_take (i := 6) (v := ?_) rfl (by kernel_rfl) (by kernel_rfl) (by kernel_rfl) (fun _ _ _ h => h) (Or.inl ⟨by kernel_rfl, ?_⟩) (by assumption) ?_
  rotate_left
  · intro w hSw; (try dsimp only at hSw); go_simp; (try with_reducible rfl)
  refine wpAnyH_take (i := 7) (v := ?_) rfl (by kernel_rfl) (by kernel_rfl) (by kernel_rfl) (fun _ _ _ h => h) (Or.inl ⟨by kernel_rfl, ?_⟩) (by assumption) ?_
  rotate_left
  · intro w hSw; (try dsimp only at hSw); go_simp; (try with_reducible rfl)
  refine wpAnyH_take (i := 8) (v := ?_) rfl (by kernel_rfl) (by kernel_rfl) (by kernel_rfl) (fun _ _ _ h => h) (Or.inl ⟨by kernel_rfl, ?_⟩) (by assumption) ?_
  rotate_left
  · intro w hSw; (try dsimp only at hSw); go_simp; (try with_reducible rfl)
  refine wpAnyH_done (by kernel_rfl) ?_ _
  have c0 := HD.out.1.c0
  have c1 := HD.out.1.c1
  have c2x := HD.out.1.c2
  have c3x := HD.out.1.c3
  have c4 := HD.out.1.c4
  simp only at c2x c3x
  go_wp2_with fail
  refine (HIH.out z0 HD.out.2.1 HD.out.2.2.1 (Nat.le_trans HH.out.1 HD.out.2.2.2.1.size) (Nat.le_trans HH.out.2 HD.out.2.2.2.1.size)).mono ?_
  rintro x z2 ⟨rfl, hbk, hkp⟩
  have HD2 : Hid (BookW z2 lo hi P U ∧ lo ≤ z2.heap.size ∧ Kq.Keeps (fun k => lo ≤ k ∧ k < hi) w z2) := Lib.hid ⟨hbk, Nat.le_trans HH.out.2 (Nat.le_trans HD.out.2.2.2.1.size hkp.size), (Kq.Keeps.of_below (S := fun k => lo ≤ k ∧ k < hi) HD.out.2.2.2.1 (fun k h1 h2 => absurd h2 (Nat.not_lt.2 h1))).trans hkp⟩
  clear hbk hkp HD c0 c1 c2x c3x c4 hS0
  go_wp2_with fail
  refine (r_sumW lo hi P U L _ HD2.out.1 HD2.out.2.1 HLZ.out HTL.out).mono ?_
  rintro x z3 ⟨rfl, hbk, hkp⟩
  have HD3 : Hid (BkPost w lo hi P (L :: U) (.string (dgT L)) (.returned (.string (dgT L))) z3) := Lib.hid ⟨rfl, hbk, HD2.out.2.2.trans hkp⟩
  clear hbk hkp HD2
  go_wp2
  go_ret
  exact HD3.out
set_option maxRecDepth 100000 in
set_option maxHeartbeats 4000000 in
theorem rup_right (idx cnt : Int) (p : PairV) (ps : List ByteArray) (n : Nat) (ih : RUpOk idx cnt p ps n) (i c : Nat) (A : Option Addr) (cap : Nat) (lo hi P : Nat) (T : List ByteArray) (w : World) (hcn : c ≤ n + 1) (h2 : 2 ≤ c) (hc : c ≤ 4096) (hi_ : i < c) (hdp : dep i c ≤ ps.length) (hs : p.1.size + p.2.size ≤ 90000) (hn : ps.length ≤ 100) (h32 : All32 ps) (hA : TxO w lo hi A ps) (hB : BookW w lo hi P T) (hhi : hi ≤ w.heap.size) (hlo : lo ≤ w.heap.size) (hT : T.length + dep i c < 1000) (hik : ¬ i < leftN c) :
    Calls Tryd.prog 86 #[.pointer (some ⟨P, 0, none⟩), .agg #[.int .i64 idx, .int .i64 cnt, .string p.1, .string p.2, .slice A ps.length cap], .int .i64 (i : Int), .int .i64 (c : Int)] w (BkPost w lo hi P (askU p i c (ps.take (dep i c)) ++ T) (.string (up p i c (ps.take (dep i c))).1)) := by
  have hde := (dep_many i c h2).2 hik
  obtain ⟨k, hk⟩ : ∃ k, k = leftN c := ⟨_, rfl⟩
  have hk1 : 1 ≤ k := by rw [hk]; exact leftN_pos _
  have hk2 : k < c := by rw [hk]; exact leftN_lt _ h2
  have HL := Lib.hid (fun w => rk_left c w h2 (by omega))
  have hum := fun path (h : List.length path ≠ 0) => (up_many p i c path h2 h).2 hik
  have ham := fun path => (askU_many p i c path h2).2 hik
  rw [← hk] at HL hik hde
  rw [← hk] at hum ham
  clear hk
  obtain ⟨i2, hi2⟩ : ∃ i2, i2 = i - k := ⟨_, rfl⟩
  obtain ⟨c2, hc2⟩ : ∃ c2, c2 = c - k := ⟨_, rfl⟩
  rw [← hi2, ← hc2] at hde hum ham
  have hw1 : IntKind.i64.wrap ((i : Int) - (k : Int)) = (i2 : Int) := by rw [IntWalk.i64_in _ (by omega)]; omega
  have hw2 : IntKind.i64.wrap ((c : Int) - (k : Int)) = (c2 : Int) := by rw [IntWalk.i64_in _ (by omega)]; omega
  have hw3 : wrap64 ((i : Int) - (k : Int)) = (i2 : Int) := by rw [IntWalk.wrap64_in _ (by omega)]; omega
  have hw4 : wrap64 ((c : Int) - (k : Int)) = (c2 : Int) := by rw [IntWalk.wrap64_in _ (by omega)]; omega
  have hw5 : (i : Int) - (k : Int) = (i2 : Int) := by omega
  have hw6 : (c : Int) - (k : Int) = (c2 : Int) := by omega
  have hiB : i2 ≤ 4096 := by omega
  have hcB : c2 ≤ 4096 := by omega
  obtain ⟨d, hd⟩ : ∃ d, d = dep i2 c2 := ⟨_, rfl⟩
  rw [← hd] at hde
  have HDP := Lib.hid (fun w => rk_depth c i c w (Nat.le_refl _) (by omega) hc hi_)
  rw [hde] at HDP hdp hT ⊢
  have hpl : (ps.take (d + 1)).length = d + 1 := by rw [List.length_take]; omega
  have hum' := hum (ps.take (d + 1)) (by omega)
  have ham' := ham (ps.take (d + 1))
  rw [hpl, Nat.add_sub_cancel, List.take_take, Nat.min_eq_left (Nat.le_succ d)] at hum' ham'
  have hg : (ps.take (d + 1)).getD d ⟨#[]⟩ = ps[d]'(by omega) := by rw [List.getD_eq_getElem?_getD, List.getElem?_take_of_lt (by omega), List.getElem?_eq_getElem (by omega)]; rfl
  obtain ⟨b, off, rfl, hb0, hlt, cm⟩ := hA d (by omega)
  rw [← hg] at cm
  have hz : ((ps.take (d + 1)).getD d ⟨#[]⟩).size = 32 := by rw [hg]; exact h32 _ (List.getElem_mem _)
  generalize (ps.take (d + 1)).getD d ⟨#[]⟩ = E at *
  have hsz := (up_size p c2 i2 c2 (ps.take d) (Nat.le_refl _) (by omega)).1
  have hal := askU_len p c2 i2 c2 (ps.take d) (Nat.le_refl _) (by omega)
  have HIH : Hid (∀ w', TxO w' lo hi (some ⟨b, off, none⟩) ps → BookW w' lo hi P T → hi ≤ w'.heap.size → lo ≤ w'.heap.size → Calls Tryd.prog 86 #[.pointer (some ⟨P, 0, none⟩), .agg #[.int .i64 idx, .int .i64 cnt, .string p.1, .string p.2, .slice (some ⟨b, off, none⟩) ps.length cap], .int .i64 (i2 : Int), .int .i64 (c2 : Int)] w' (BkPost w' lo hi P (askU p i2 c2 (ps.take d) ++ T) (.string (up p i2 c2 (ps.take d)).1))) := Lib.hid (fun w' h1 h2' h3 h4 => by
    have := ih i2 c2 (some ⟨b, off, none⟩) cap lo hi P T w' (by omega) (by omega) (by omega) (by omega) (by rw [← hd]; omega) hs hn h32 h1 h2' h3 h4 (by rw [← hd]; omega)
    rwa [← hd] at this)
  rw [hum', ham']
  have HTL : Hid ((askU p i2 c2 (ps.take d) ++ T).length < 1000) := Lib.hid (by rw [List.length_append, hal, ← hd]; omega)
  have hdB : d ≤ 100 := by omega
  clear hum ham hum' ham' hg hde hpl
  generalize up p i2 c2 (ps.take d) = R at *
  obtain ⟨D, ok⟩ := R
  simp only at hsz HIH ⊢
  obtain ⟨L, hL⟩ : ∃ L, L = nodeT E D := ⟨_, rfl⟩
  rw [List.cons_append, ← hL]
  generalize askU p i2 c2 (ps.take d) ++ T = U at *
  have HLZ : Hid (L.size ≤ 900000000) := Lib.hid (by
    rw [hL]; unfold nodeT
    simp only [ByteArray.size_append]
    have : (⟨#[1]⟩ : ByteArray).size = 1 := rfl
    omega)
  have hL' : (⟨#[1]⟩ ++ E) ++ D = L := hL.symm
  have hsB : D.size ≤ 32 := by omega
  have hl1 : ¬ 9223372036854775807 < 1 + D.size := by omega
  have hl2 : ¬ 9223372036854775807 < 1 + D.size + 32 := by omega
  have hl3 : ¬ 9223372036854775807 < 33 + D.size := by omega
  have d3 : decide ((i : Int) < (k : Int)) = false := decide_eq_false (by omega)
  have d4 : decide (i < k) = false := decide_eq_false hik
  have e1 : ((c : Int) == 1) = false := by rw [beq_eq_false_iff_ne]; omega
  have hq1 : IntKind.i64.wrap (((d + 1 : Nat) : Int) - 1) = (d : Int) := by rw [IntWalk.i64_in _ (by omega)]; omega
  have hq3 : (d : Int) < (ps.length : Int) := by omega
  obtain ⟨dd, hdd⟩ : ∃ dd, dd = d + 1 := ⟨_, rfl⟩
  rw [← hdd] at HDP hq1
  have hba := Kq.below_alloc w (.cells #[.int .i64 idx, .int .i64 cnt, .string p.1, .string p.2, .slice (some ⟨b, off, none⟩) ps.length cap] 30)
  have HD : Hid (XBox (w.alloc (.cells #[.int .i64 idx, .int .i64 cnt, .string p.1, .string p.2, .slice (some ⟨b, off, none⟩) ps.length cap] 30)).drew w.heap.size idx cnt p (.slice (some ⟨b, off, none⟩) ps.length cap) ∧ TxO (w.alloc (.cells #[.int .i64 idx, .int .i64 cnt, .string p.1, .string p.2, .slice (some ⟨b, off, none⟩) ps.length cap] 30)).drew lo hi (some ⟨b, off, none⟩) ps ∧ BookW (w.alloc (.cells #[.int .i64 idx, .int .i64 cnt, .string p.1, .string p.2, .slice (some ⟨b, off, none⟩) ps.length cap] 30)).drew lo hi P T ∧ Below w.heap.size w (w.alloc (.cells #[.int .i64 idx, .int .i64 cnt, .string p.1, .string p.2, .slice (some ⟨b, off, none⟩) ps.length cap] 30)).drew ∧ (w.alloc (.cells #[.int .i64 idx, .int .i64 cnt, .string p.1, .string p.2, .slice (some ⟨b, off, none⟩) ps.length cap] 30)).drew.cell? ⟨b, off + d, none⟩ = some (.string E)) :=
    Lib.hid ⟨⟨Kq.blk_new _ _ _ _⟩, hA.below hba.drew, hB.below hba.drew, hba.drew, (hba.cell (p := ⟨b, off + d, none⟩) hlt).trans cm⟩
  have HH := Lib.hid (And.intro hhi hlo)
  obtain ⟨kk, vv⟩ := p
  simp only at HD HIH ⊢
  clear hA hB hhi hlo hT hba cm hlt hb0 h32 hs hdp hdd hd hL hal hsz hik hi_ hcn hi2 hc2
  go_enter Tryd.func86, Tryd.ntmps86
  go_wp2_with fail
  refine (HL.out _).mono ?_
  rintro x w1 ⟨rfl, rfl⟩
  go_wp2
  refine wp_region_held_drew (S := fun w' => UBox w' w.heap.size b (off + d) (.slice (some ⟨b, off, none⟩) ps.length cap) E idx cnt kk vv) (by kernel_rfl) ⟨HD.out.1.c4, HD.out.2.2.2.2, HD.out.1.c0, HD.out.1.c1, HD.out.1.c2, HD.out.1.c3⟩ (fun hS0 => ?_)
  generalize (w.alloc (.cells #[.int .i64 idx, .int .i64 cnt, .string kk, .string vv, .slice (some ⟨b, off, none⟩) ps.length cap] 30)).drew = z0 at *
  unfold UBox at hS0
  dsimp only [UBox]
  refine wpAnyH_take (i := 0) (v := ?_) rfl (by kernel_rfl) (by kernel_rfl) (by kernel_rfl) (fun _ _ _ h => h) (Or.inl ⟨by kernel_rfl, ?_⟩) (by assumption) ?_
  rotate_left
  · intro w hSw; (try dsimp only at hSw); go_simp; (try with_reducible rfl)
  refine wpAnyH_take (i := 1) (v := ?_) rfl (by kernel_rfl) (by kernel_rfl) (by kernel_rfl) (fun _ _ _ h => h) (Or.inl ⟨by kernel_rfl, ?_⟩) (by assumption) ?_
  rotate_left
  · intro w hSw; (try dsimp only at hSw); go_simp; (try with_reducible rfl)
  refine wpAnyH_take (i := 2) (v := ?_) rfl (by kernel_rfl) (by kernel_rfl) (by kernel_rfl) (fun _ _ _ h => h) (Or.inl ⟨by kernel_rfl, ?_⟩) (by assumption) ?_
  rotate_left
  · intro w hSw; (try dsimp only at hSw); go_simp; (try with_reducible rfl)
  refine wpAnyH_take (i := 3) (v := ?_) rfl (by kernel_rfl) (by kernel_rfl) (by kernel_rfl) (fun _ _ _ h => h) (Or.inl ⟨by kernel_rfl, ?_⟩) (by assumption) ?_
  rotate_left
  · intro w hSw; (try dsimp only at hSw); go_simp; (try with_reducible rfl)
  refine wpAnyH_ready (rs := [4]) (by kernel_rfl) (by simp) ?_
  refine AllReadyH.cons rfl (fun K hK => ?_) AllReadyH.nil
  go_simp
  refine (HDP.out z0).mono ?_
  rintro x z1 ⟨rfl, rfl⟩
  refine hK.out _ _ hS0 (fun hS0 => ?_)
  clear hK K
  refine wpAnyH_take (i := 5) (v := ?_) rfl (by kernel_rfl) (by kernel_rfl) (by kernel_rfl) (fun _ _ _ h => h) (Or.inl ⟨by kernel_rfl, ?_⟩) (by assumption) ?_
  rotate_left
  · intro w hSw; (try dsimp only at hSw); go_simp; (try with_reducible rfl)
  refine wpAnyH_take (i := 6) (v := ?_) rfl (by kernel_rfl) (by kernel_rfl) (by kernel_rfl) (fun _ _ _ h => h) (Or.inl ⟨by kernel_rfl, ?_⟩) (by assumption) ?_
  rotate_left
  · intro w hSw; (try dsimp only at hSw); go_simp; (try with_reducible rfl)
  refine wpAnyH_take (i := 7) (v := ?_) rfl (by kernel_rfl) (by kernel_rfl) (by kernel_rfl) (fun _ _ _ h => h) (Or.inl ⟨by kernel_rfl, ?_⟩) (by assumption) ?_
  rotate_left
  · intro w hSw; (try dsimp only at hSw); go_simp; (try with_reducible rfl)
  refine wpAnyH_take (i := 8) (v := ?_) rfl (by kernel_rfl) (by kernel_rfl) (by kernel_rfl) (fun _ _ _ h => h) (Or.inl ⟨by kernel_rfl, ?_⟩) (by assumption) ?_
  rotate_left
  · intro w hSw; (try dsimp only at hSw); go_simp; (try with_reducible rfl)
  refine wpAnyH_done (by kernel_rfl) ?_ _
  have c0 := HD.out.1.c0
  have c1 := HD.out.1.c1
  have c2x := HD.out.1.c2
  have c3x := HD.out.1.c3
  have c4 := HD.out.1.c4
  simp only at c2x c3x
  go_wp2_with fail
  refine (HIH.out z0 HD.out.2.1 HD.out.2.2.1 (Nat.le_trans HH.out.1 HD.out.2.2.2.1.size) (Nat.le_trans HH.out.2 HD.out.2.2.2.1.size)).mono ?_
  rintro x z2 ⟨rfl, hbk, hkp⟩
  have HD2 : Hid (BookW z2 lo hi P U ∧ lo ≤ z2.heap.size ∧ Kq.Keeps (fun k => lo ≤ k ∧ k < hi) w z2) := Lib.hid ⟨hbk, Nat.le_trans HH.out.2 (Nat.le_trans HD.out.2.2.2.1.size hkp.size), (Kq.Keeps.of_below (S := fun k => lo ≤ k ∧ k < hi) HD.out.2.2.2.1 (fun k h1 h2 => absurd h2 (Nat.not_lt.2 h1))).trans hkp⟩
  clear hbk hkp HD c0 c1 c2x c3x c4 hS0
  go_wp2_with fail
  refine (r_sumW lo hi P U L _ HD2.out.1 HD2.out.2.1 HLZ.out HTL.out).mono ?_
  rintro x z3 ⟨rfl, hbk, hkp⟩
  have HD3 : Hid (BkPost w lo hi P (L :: U) (.string (dgT L)) (.returned (.string (dgT L))) z3) := Lib.hid ⟨rfl, hbk, HD2.out.2.2.trans hkp⟩
  clear hbk hkp HD2
  go_wp2
  go_ret
  exact HD3.out
theorem rk_up (idx cnt : Int) (p : PairV) (ps : List ByteArray) : ∀ n : Nat, RUpOk idx cnt p ps n := by
  intro n
  induction n with
  | zero => exact fun i c A cap lo hi P T w h1 h2 => absurd h2 (by omega)
  | succ n ih =>
    intro i c A cap lo hi P T w hcn h1 hc hi_ hdp hs hn h32 hA hB hhi hlo hT
    by_cases h2 : c = 1
    · subst h2
      have e0 : dep i 1 = 0 := dep_one i 1 (by omega)
      have := rup_one idx cnt p ps i A cap lo hi P T w hs hB hhi hlo (by omega)
      rw [e0, List.take_zero, askU_one, up_one]
      exact this
    · by_cases hik : i < leftN c
      · exact rup_left idx cnt p ps n ih i c A cap lo hi P T w hcn (by omega) hc hi_ hdp hs hn h32 hA hB hhi hlo hT hik
      · exact rup_right idx cnt p ps n ih i c A cap lo hi P T w hcn (by omega) hc hi_ hdp hs hn h32 hA hB hhi hlo hT hik
end Go.Proofs.YtclloplkbajebaaDoor
namespace Go.Proofs.YtclloplkbajebaaDoor
open Go.RowKit
set_option linter.unusedVariables false
/-- the texts that are digested -/
def askC (idx cnt : Int) (p : PairV) (ps : List ByteArray) : List ByteArray :=
  if CliOk idx cnt ps ∧ (up p idx.toNat cnt.toNat ps).2 = true then topT cnt.toNat (up p idx.toNat cnt.toNat ps).1 :: askU p idx.toNat cnt.toNat ps else []
def CbPost (w : World) (lo hi P : Nat) (T : List ByteArray) (r : ByteArray × Bool) (x : Ending) (w' : World) : Prop :=
  x = .returned (.tuple #[.string r.1, .bool r.2]) ∧ BookW w' lo hi P T ∧ Kq.Keeps (fun k => lo ≤ k ∧ k < hi) w w'
theorem keeps_below {w w' : World} {lo hi : Nat} (hb : Below w.heap.size w w') : Kq.Keeps (fun k => lo ≤ k ∧ k < hi) w w' := Kq.Keeps.of_below hb (fun k h1 h2 => absurd h2 (Nat.not_lt.2 h1))
def VBox (w' : World) (X : Nat) (idx cnt : Int) (k u : ByteArray) (v : Value) : Prop := w'.cell? ⟨X, 0, none⟩ = some (.int .i64 idx) ∧ w'.cell? ⟨X, 1, none⟩ = some (.int .i64 cnt) ∧ w'.cell? ⟨X, 2, none⟩ = some (.string k) ∧ w'.cell? ⟨X, 3, none⟩ = some (.string u) ∧ w'.cell? ⟨X, 4, none⟩ = some v
theorem XBox.v {w : World} {X : Nat} {idx cnt : Int} {k u : ByteArray} {v : Value} (h : XBox w X idx cnt (k, u) v) : VBox w X idx cnt k u v := ⟨h.c0, h.c1, h.c2, h.c3, h.c4⟩
section
variable (idx cnt : Int) (k u : ByteArray) (ps : List ByteArray) (A : Option Addr) (cap lo hi P : Nat) (T : List ByteArray) (w : World)
theorem climb_no (hno : ¬ (CliOk idx cnt ps ∧ ps.length = dep idx.toNat cnt.toNat)) : climbV idx cnt (k, u) ps = (⟨#[]⟩, false) ∧ askC idx cnt (k, u) ps = [] := by
  have h : ¬ (CliOk idx cnt ps ∧ (up (k, u) idx.toNat cnt.toNat ps).2 = true) := fun h => hno ⟨h.1, by
    have e := up_ok (k, u) _ idx.toNat cnt.toNat ps (Nat.le_refl _) (by have := h.1.1; omega)
    rw [h.2] at e
    exact of_decide_eq_true e.symm⟩
  unfold climbV askC
  rw [if_neg h, if_neg h]
  exact ⟨rfl, rfl⟩
set_option maxRecDepth 100000 in
set_option maxHeartbeats 4000000 in
theorem rcl_bounds (hB : BookW w lo hi P T) (hno : cnt < 1 ∨ 4096 < cnt ∨ idx < 0 ∨ cnt ≤ idx) :
    Calls Tryd.prog 74 #[.pointer (some ⟨P, 0, none⟩), .agg #[.int .i64 idx, .int .i64 cnt, .string k, .string u, .slice A ps.length cap]] w (CbPost w lo hi P T (⟨#[]⟩, false)) := by
  have hb := Kq.below_alloc w (.cells #[.int .i64 idx, .int .i64 cnt, .string k, .string u, .slice A ps.length cap] 30)
  have HX : Hid (XBox (w.alloc (.cells #[.int .i64 idx, .int .i64 cnt, .string k, .string u, .slice A ps.length cap] 30)) w.heap.size idx cnt (k, u) (.slice A ps.length cap)) := Lib.hid ⟨Kq.blk_new _ _ _ _⟩
  have HP : Hid (∀ x n, x = .returned (.tuple #[.string ⟨#[]⟩, .bool false]) → CbPost w lo hi P T (⟨#[]⟩, false) x ((w.alloc (.cells #[.int .i64 idx, .int .i64 cnt, .string k, .string u, .slice A ps.length cap] 30)).drewN n)) := Lib.hid (fun x n hx => ⟨hx, hB.below (below_drewN hb n), keeps_below (below_drewN hb n)⟩)
  have c0 := HX.out.c0
  have c1 := HX.out.c1
  clear hB hb
  by_cases h1 : cnt < 1
  · have d1 : decide (cnt < 1) = true := decide_eq_true h1
    clear h1 hno
    go_enter Tryd.func74, Tryd.ntmps74
    go_wp2
    go_quiet (fail)
    go_wp2
    go_ret2
    exact HP.out _ _ rfl
  have hno := hno.resolve_left h1
  have d1 : decide (cnt < 1) = false := decide_eq_false h1
  by_cases h2 : 4096 < cnt
  · have d2 : decide (4096 < cnt) = true := decide_eq_true h2
    clear h1 h2 hno
    go_enter Tryd.func74, Tryd.ntmps74
    go_wp2
    go_quiet (fail)
    go_wp2
    go_ret2
    exact HP.out _ _ rfl
  have hno := hno.resolve_left h2
  have d2 : decide (4096 < cnt) = false := decide_eq_false h2
  by_cases h3 : idx < 0
  · have d3 : decide (idx < 0) = true := decide_eq_true h3
    clear h1 h2 h3 hno
    go_enter Tryd.func74, Tryd.ntmps74
    go_wp2
    go_quiet (fail)
    go_wp2
    go_ret2
    exact HP.out _ _ rfl
  have h4 := hno.resolve_left h3
  have d3 : decide (idx < 0) = false := decide_eq_false h3
  have d4 : decide (cnt ≤ idx) = true := decide_eq_true h4
  clear h1 h2 h3 h4 hno
  go_enter Tryd.func74, Tryd.ntmps74
  go_wp2
  go_quiet (fail)
  go_wp2
  go_ret2
  exact HP.out _ _ rfl
end
section
variable (i c : Nat) (k u : ByteArray) (ps : List ByteArray) (A : Option Addr) (cap lo hi P : Nat) (T : List ByteArray) (w : World)
set_option maxRecDepth 100000 in
set_option maxHeartbeats 4000000 in
theorem rcl_len (hB : BookW w lo hi P T) (h1 : 1 ≤ c) (h2 : c ≤ 4096) (h3 : i < c) (hn : ps.length ≤ 100) (hne : ps.length ≠ dep i c) :
    Calls Tryd.prog 74 #[.pointer (some ⟨P, 0, none⟩), .agg #[.int .i64 (i : Int), .int .i64 (c : Int), .string k, .string u, .slice A ps.length cap]] w (CbPost w lo hi P T (⟨#[]⟩, false)) := by
  have hb := Kq.below_alloc w (.cells #[.int .i64 (i : Int), .int .i64 (c : Int), .string k, .string u, .slice A ps.length cap] 30)
  have HX : Hid (XBox (w.alloc (.cells #[.int .i64 (i : Int), .int .i64 (c : Int), .string k, .string u, .slice A ps.length cap] 30)) w.heap.size i c (k, u) (.slice A ps.length cap)) := Lib.hid ⟨Kq.blk_new _ _ _ _⟩
  have HP : Hid (∀ x n, x = .returned (.tuple #[.string ⟨#[]⟩, .bool false]) → CbPost w lo hi P T (⟨#[]⟩, false) x ((w.alloc (.cells #[.int .i64 (i : Int), .int .i64 (c : Int), .string k, .string u, .slice A ps.length cap] 30)).drewN n)) := Lib.hid (fun x n hx => ⟨hx, hB.below (below_drewN hb n), keeps_below (below_drewN hb n)⟩)
  have c0 := HX.out.c0
  have c1 := HX.out.c1
  have c4 := HX.out.c4
  have HQ := Lib.hid (fun (w : World) (n : Nat) => Calls.quiet_of_same ((rk_depth c i c (w.drewN n) (Nat.le_refl _) h1 h2 h3).mono fun _ _ hp => ⟨hp.1, hp.2.symm⟩))
  have d1 : decide ((c : Int) < 1) = false := decide_eq_false (by omega)
  have d2 : decide ((4096 : Int) < (c : Int)) = false := decide_eq_false (by omega)
  have d2' : decide (4096 < c) = false := decide_eq_false (by omega)
  have d3 : decide ((i : Int) < 0) = false := decide_eq_false (by omega)
  have d4 : decide ((c : Int) ≤ (i : Int)) = false := decide_eq_false (by omega)
  have d4' : decide (c ≤ i) = false := decide_eq_false (by omega)
  have q1 : ((ps.length : Int) != (dep i c : Int)) = true := by rw [bne_iff_ne]; omega
  generalize dep i c = dd at *
  clear hB hb h1 h2 h3 hn hne
  go_enter Tryd.func74, Tryd.ntmps74
  go_wp2
  go_quiet ((go_at_call 85; exact HQ.out _ _))
  go_wp2
  go_ret2
  exact HP.out _ _ rfl
set_option maxRecDepth 100000 in
set_option maxHeartbeats 4000000 in
theorem rcl_all (hB : BookW w lo hi P T) (hhi : hi ≤ w.heap.size) (hlo : lo ≤ w.heap.size) (hA : TxO w lo hi A ps) (h1 : 1 ≤ c) (h2 : c ≤ 4096) (h3 : i < c) (hn : ps.length ≤ 100) (he : ps.length = dep i c) (hs : k.size + u.size ≤ 90000) (hT : T.length + 110 < 1000) :
    Calls Tryd.prog 74 #[.pointer (some ⟨P, 0, none⟩), .agg #[.int .i64 (i : Int), .int .i64 (c : Int), .string k, .string u, .slice A ps.length cap]] w (CbPost w lo hi P (askC i c (k, u) ps ++ T) (climbV i c (k, u) ps)) := by
  have hb := Kq.below_alloc w (.cells #[.int .i64 (i : Int), .int .i64 (c : Int), .string k, .string u, .slice A ps.length cap] 30)
  have HD : Hid (∀ n, XBox ((w.alloc (.cells #[.int .i64 (i : Int), .int .i64 (c : Int), .string k, .string u, .slice A ps.length cap] 30)).drewN n) w.heap.size i c (k, u) (.slice A ps.length cap) ∧ BookW ((w.alloc (.cells #[.int .i64 (i : Int), .int .i64 (c : Int), .string k, .string u, .slice A ps.length cap] 30)).drewN n) lo hi P T ∧ TxO ((w.alloc (.cells #[.int .i64 (i : Int), .int .i64 (c : Int), .string k, .string u, .slice A ps.length cap] 30)).drewN n) lo hi A ps ∧ Below w.heap.size w ((w.alloc (.cells #[.int .i64 (i : Int), .int .i64 (c : Int), .string k, .string u, .slice A ps.length cap] 30)).drewN n)) := Lib.hid (fun n => ⟨⟨by show (w.alloc _).heap[w.heap.size]? = _; exact Kq.blk_new _ _ _ _⟩, hB.below (below_drewN hb n), hA.below (below_drewN hb n), below_drewN hb n⟩)
  have HX : Hid (XBox (w.alloc (.cells #[.int .i64 (i : Int), .int .i64 (c : Int), .string k, .string u, .slice A ps.length cap] 30)) w.heap.size i c (k, u) (.slice A ps.length cap)) := Lib.hid ⟨Kq.blk_new _ _ _ _⟩
  have c0 := HX.out.c0
  have c1 := HX.out.c1
  have c4 := HX.out.c4
  have HQ := Lib.hid (fun (w : World) (n : Nat) => Calls.quiet_of_same ((rk_depth c i c (w.drewN n) (Nat.le_refl _) h1 h2 h3).mono fun _ _ hp => ⟨hp.1, hp.2.symm⟩))
  rw [← he] at HQ
  have d1 : decide ((c : Int) < 1) = false := decide_eq_false (by omega)
  have d2 : decide ((4096 : Int) < (c : Int)) = false := decide_eq_false (by omega)
  have d2' : decide (4096 < c) = false := decide_eq_false (by omega)
  have d3 : decide ((i : Int) < 0) = false := decide_eq_false (by omega)
  have d4 : decide ((c : Int) ≤ (i : Int)) = false := decide_eq_false (by omega)
  have d4' : decide (c ≤ i) = false := decide_eq_false (by omega)
  have q1 : ((ps.length : Int) != (ps.length : Int)) = false := by simp
  have HE := Lib.hid (And.intro he (And.intro hs (And.intro hT (And.intro hhi hlo))))
  have HN := Lib.hid (show ps.length ≤ 100 ∧ 1 ≤ c ∧ c ≤ 4096 ∧ i < c from ⟨hn, h1, h2, h3⟩)
  have hcB : c ≤ 4096 := h2
  clear hB hb hA h1 h2 h3 hn he hs hT hhi hlo
  go_enter Tryd.func74, Tryd.ntmps74
  go_wp2
  go_quiet ((go_at_call 85; exact HQ.out _ _))
  have H0 := Lib.hid (HD.out nq)
  clear c0 c1 c4 HD HX
  generalize (w.alloc (.cells #[.int .i64 (i : Int), .int .i64 (c : Int), .string k, .string u, .slice A ps.length cap] 30)).drewN nq = z0 at *
  have c0 := H0.out.1.c0
  have c1 := H0.out.1.c1
  have c2 := H0.out.1.c2
  have c3 := H0.out.1.c3
  have c4 := H0.out.1.c4
  simp only at c2 c3
  go_wp2
  go_loop [6] (fun x => ∃ j : Nat, j ≤ ps.length ∧ x = .int .i64 (j : Int) ∧ (∀ i (hi : i < ps.length), i < j → ps[i].size = 32)) (fun x => ps.length - (intOf x).toNat)
  case atStart => exact ⟨0, by omega, rfl, fun i _ hi => absurd hi (Nat.not_lt_zero _)⟩
  case round =>
    obtain ⟨j, hj, rfl, hup⟩ := hrel
    have HUP := Lib.hid hup
    have hn' := HN.out.1
    by_cases hlt : j < ps.length
    · obtain ⟨g, o, rfl, hg0, hg, cj⟩ := H0.out.2.2.1 j hlt
      obtain ⟨s, hs⟩ : ∃ s, s = ps[j] := ⟨_, rfl⟩
      rw [← hs] at cj
      have HSJ := Lib.hid hs
      have HLT := Lib.hid hlt
      have hi0 : (j : Int) < (ps.length : Int) := by omega
      clear hup hg hg0 hs
      by_cases h32 : s.size = 32
      · have q2 : ((s.size : Int) != 32) = false := by rw [bne_eq_false_iff_eq]; omega
        have HG : Hid ((ps[j]'HLT.out).size = 32) := Lib.hid (by rw [← HSJ.out]; exact h32)
        clear h32
        go_wp2
        go_round
        case rel =>
          refine ⟨j + 1, HLT.out, by go_num, fun i hi h => ?_⟩
          rcases Nat.lt_or_ge i j with h' | h'
          · exact HUP.out i hi h'
          · have : i = j := by omega
            subst this
            exact HG.out
        case measure => have := HLT.out; simp [intOf]; omega
      · have q2 : ((s.size : Int) != 32) = true := by rw [bne_iff_ne]; omega
        have HF := Lib.hid (climb_no (i : Int) (c : Int) k u ps (fun h => h32 (h.1.2.2.2.2 s (by rw [HSJ.out]; exact List.getElem_mem _))))
        rw [HF.out.1, HF.out.2]
        have HP : Hid (∀ x, x = .returned (.tuple #[.string ⟨#[]⟩, .bool false]) → CbPost w lo hi P ([] ++ T) (⟨#[]⟩, false) x z0) := Lib.hid (fun x hx => ⟨hx, H0.out.2.1, keeps_below H0.out.2.2.2⟩)
        clear h32 HF
        go_wp2
        go_ret2
        exact HP.out _ rfl
    · obtain rfl : j = ps.length := by omega
      have h32 : All32 ps := fun s hs => by
        obtain ⟨i, hi, rfl⟩ := List.getElem_of_mem hs
        exact hup i hi hi
      have hok := up_ok (k, u) c i c ps (Nat.le_refl _) HN.out.2.1
      rw [HE.out.1, decide_eq_true rfl] at hok
      have hyes : CliOk (i : Int) (c : Int) ps ∧ (up (k, u) (i : Int).toNat (c : Int).toNat ps).2 = true := ⟨⟨by have := HN.out; omega, by have := HN.out; omega, by omega, by have := HN.out; omega, h32⟩, by rw [Int.toNat_natCast, Int.toNat_natCast]; exact hok⟩
      have hv1 : climbV i c (k, u) ps = (dgT (topT c (up (k, u) i c ps).1), true) := by unfold climbV; rw [if_pos hyes]; rw [Int.toNat_natCast, Int.toNat_natCast]
      have hv2 : askC i c (k, u) ps = topT c (up (k, u) i c ps).1 :: askU (k, u) i c ps := by unfold askC; rw [if_pos hyes]; rw [Int.toNat_natCast, Int.toNat_natCast]
      have HVV : Hid (climbV i c (k, u) ps = (dgT (topT c (up (k, u) i c ps).1), true) ∧ askC i c (k, u) ps ++ T = topT c (up (k, u) i c ps).1 :: (askU (k, u) i c ps ++ T)) := Lib.hid ⟨hv1, by rw [hv2]; rfl⟩
      have hdep := dep_lt c i c (Nat.le_refl _) HN.out.2.1
      have HU := Lib.hid (rk_up (i : Int) (c : Int) (k, u) ps c i c A cap lo hi P T)
      have htk : ps.take (dep i c) = ps := List.take_of_length_le (by rw [HE.out.1]; exact Nat.le_refl _)
      rw [htk] at HU
      have hal := askU_len (k, u) c i c ps (Nat.le_refl _) HN.out.2.1
      have HTL : Hid ((askU (k, u) i c ps ++ T).length < 1000) := Lib.hid (by have h1 := HE.out.2.2.1; have h2 := HN.out.1; have h3 := HE.out.1; rw [List.length_append, hal]; omega)
      have hsz := (up_size (k, u) c i c ps (Nat.le_refl _) HN.out.2.1).1
      have HSZ : Hid ((up (k, u) i c ps).1.size ≤ 80000) := Lib.hid (by omega)
      have HAL := Lib.hid h32
      have HDP : Hid (dep i c ≤ ps.length ∧ T.length + dep i c < 1000) := Lib.hid ⟨by rw [HE.out.1]; exact Nat.le_refl _, by have h1 := HE.out.2.2.1; have h2 := HN.out.1; have h3 := HE.out.1; omega⟩
      clear hup HUP hok hyes hv1 hv2 hdep htk hal hsz h32
      generalize askU (k, u) i c ps ++ T = U at *
      generalize (up (k, u) i c ps).1 = D at *
      have H1 : Hid (XBox z0.drew w.heap.size i c (k, u) (.slice A ps.length cap) ∧ BookW z0.drew lo hi P T ∧ TxO z0.drew lo hi A ps ∧ Below w.heap.size w z0.drew) := Lib.hid ⟨⟨H0.out.1.bx⟩, H0.out.2.1.below (Below.refl _ _).drew, H0.out.2.2.1.below (Below.refl _ _).drew, H0.out.2.2.2.drew⟩
      clear c0 c1 c2 c3 H0
      go_wp2
      refine wp_region_held_drew (S := fun w' => VBox w' w.heap.size i c k u (.slice A ps.length cap)) (by kernel_rfl) H1.out.1.v (fun hS0 => ?_)
      clear c4
      generalize z0.drew = z1 at *
      unfold VBox at hS0
      dsimp only [VBox]
      refine wpAnyH_take (i := 0) (v := ?_) rfl (by kernel_rfl) (by kernel_rfl) (by kernel_rfl) (fun _ _ _ h => h) (Or.inl ⟨by kernel_rfl, ?_⟩) (by assumption) ?_
      rotate_left
      · intro w hSw; (try dsimp only at hSw); go_simp; (try with_reducible rfl)
      refine wpAnyH_take (i := 1) (v := ?_) rfl (by kernel_rfl) (by kernel_rfl) (by kernel_rfl) (fun _ _ _ h => h) (Or.inl ⟨by kernel_rfl, ?_⟩) (by assumption) ?_
      rotate_left
      · intro w hSw; (try dsimp only at hSw); go_simp; (try with_reducible rfl)
      refine wpAnyH_take (i := 2) (v := ?_) rfl (by kernel_rfl) (by kernel_rfl) (by kernel_rfl) (fun _ _ _ h => h) (Or.inl ⟨by kernel_rfl, ?_⟩) (by assumption) ?_
      rotate_left
      · intro w hSw; (try dsimp only at hSw); go_simp; (try with_reducible rfl)
      refine wpAnyH_take (i := 3) (v := ?_) rfl (by kernel_rfl) (by kernel_rfl) (by kernel_rfl) (fun _ _ _ h => h) (Or.inl ⟨by kernel_rfl, ?_⟩) (by assumption) ?_
      rotate_left
      · intro w hSw; (try dsimp only at hSw); go_simp; (try with_reducible rfl)
      refine wpAnyH_take (i := 4) (v := ?_) rfl (by kernel_rfl) (by kernel_rfl) (by kernel_rfl) (fun _ _ _ h => h) (Or.inl ⟨by kernel_rfl, ?_⟩) (by assumption) ?_
      rotate_left
      · intro w hSw; (try dsimp only at hSw); go_simp; (try with_reducible rfl)
      refine wpAnyH_take (i := 5) (v := ?_) rfl (by kernel_rfl) (by kernel_rfl) (by kernel_rfl) (fun _ _ _ h => h) (Or.inl ⟨by kernel_rfl, ?_⟩) (by assumption) ?_
      rotate_left
      · intro w hSw; (try dsimp only at hSw); go_simp; (try with_reducible rfl)
      refine wpAnyH_take (i := 6) (v := ?_) rfl (by kernel_rfl) (by kernel_rfl) (by kernel_rfl) (fun _ _ _ h => h) (Or.inl ⟨by kernel_rfl, ?_⟩) (by assumption) ?_
      rotate_left
      · intro w hSw; (try dsimp only at hSw); go_simp; (try with_reducible rfl)
      refine wpAnyH_take (i := 7) (v := ?_) rfl (by kernel_rfl) (by kernel_rfl) (by kernel_rfl) (fun _ _ _ h => h) (Or.inl ⟨by kernel_rfl, ?_⟩) (by assumption) ?_
      rotate_left
      · intro w hSw; (try dsimp only at hSw); go_simp; (try with_reducible rfl)
      refine wpAnyH_take (i := 8) (v := ?_) rfl (by kernel_rfl) (by kernel_rfl) (by kernel_rfl) (fun _ _ _ h => h) (Or.inl ⟨by kernel_rfl, ?_⟩) (by assumption) ?_
      rotate_left
      · intro w hSw; (try dsimp only at hSw); go_simp; (try with_reducible rfl)
      refine wpAnyH_ready (rs := [9]) (by kernel_rfl) (by simp) ?_
      refine AllReadyH.cons rfl (fun K hK => ?_) AllReadyH.nil
      go_simp
      refine (HU.out z1 (Nat.le_refl _) HN.out.2.1 HN.out.2.2.1 HN.out.2.2.2 HDP.out.1 HE.out.2.1 HN.out.1 HAL.out H1.out.2.2.1 H1.out.2.1 (Nat.le_trans HE.out.2.2.2.1 H1.out.2.2.2.size) (Nat.le_trans HE.out.2.2.2.2 H1.out.2.2.2.size) HDP.out.2).mono ?_
      rintro x z2 ⟨rfl, hbk, hkp⟩
      have H2 : Hid (XBox z2 w.heap.size i c (k, u) (.slice A ps.length cap) ∧ BookW z2 lo hi P U ∧ Kq.Keeps (fun k => lo ≤ k ∧ k < hi) w z2) := Lib.hid ⟨H1.out.1.keeps hkp (fun h => by have := HE.out.2.2.2.1; omega), hbk, (keeps_below H1.out.2.2.2).trans hkp⟩
      clear hbk hkp H1 hS0
      refine hK.out _ _ H2.out.1.v (fun hS0 => ?_)
      clear hK K
      refine wpAnyH_ready (rs := [10]) (by kernel_rfl) (by simp) ?_
      refine AllReadyH.cons rfl (fun K hK => ?_) AllReadyH.nil
      go_simp
      refine (rk_top lo hi P U (c : Int) D z2 H2.out.2.1 (Nat.le_trans HE.out.2.2.2.2 H2.out.2.2.size) HTL.out (by omega) HSZ.out).mono ?_
      rw [Int.toNat_natCast]
      rintro x z3 ⟨rfl, hbk, hkp⟩
      have H3 : Hid (XBox z3 w.heap.size i c (k, u) (.slice A ps.length cap) ∧ CbPost w lo hi P (topT c D :: U) (dgT (topT c D), true) (.returned (.tuple #[.string (dgT (topT c D)), .bool true])) z3) := Lib.hid ⟨H2.out.1.keeps hkp (fun h => by have := HE.out.2.2.2.1; omega), rfl, hbk, H2.out.2.2.trans hkp⟩
      clear hbk hkp H2 hS0
      refine hK.out _ _ H3.out.1.v (fun hS0 => ?_)
      clear hK K
      refine wpAnyH_take (i := 11) (v := ?_) rfl (by kernel_rfl) (by kernel_rfl) (by kernel_rfl) (fun _ _ _ h => h) (Or.inl ⟨by kernel_rfl, ?_⟩) (by assumption) ?_
      rotate_left
      · intro w hSw; (try dsimp only at hSw); go_simp; (try with_reducible rfl)
      refine wpAnyH_take (i := 12) (v := ?_) rfl (by kernel_rfl) (by kernel_rfl) (by kernel_rfl) (fun _ _ _ h => h) (Or.inl ⟨by kernel_rfl, ?_⟩) (by assumption) ?_
      rotate_left
      · intro w hSw; (try dsimp only at hSw); go_simp; (try with_reducible rfl)
      refine wpAnyH_done (by kernel_rfl) ?_ _
      go_wp2
      go_ret2
      rw [HVV.out.1, HVV.out.2]
      exact H3.out.2
end
theorem rk_climb (idx cnt : Int) (k u : ByteArray) (ps : List ByteArray) (A : Option Addr) (cap lo hi P : Nat) (T : List ByteArray) (w : World) (hB : BookW w lo hi P T) (hhi : hi ≤ w.heap.size) (hlo : lo ≤ w.heap.size) (hA : TxO w lo hi A ps) (hn : ps.length ≤ 100) (hs : k.size + u.size ≤ 90000) (hT : T.length + 110 < 1000) :
    Calls Tryd.prog 74 #[.pointer (some ⟨P, 0, none⟩), .agg #[.int .i64 idx, .int .i64 cnt, .string k, .string u, .slice A ps.length cap]] w (CbPost w lo hi P (askC idx cnt (k, u) ps ++ T) (climbV idx cnt (k, u) ps)) := by
  by_cases hb : cnt < 1 ∨ 4096 < cnt ∨ idx < 0 ∨ cnt ≤ idx
  · have e := climb_no idx cnt k u ps (fun h => by obtain ⟨⟨a1, a2, a3, a4, -⟩, -⟩ := h; omega)
    rw [e.1, e.2]
    exact rcl_bounds idx cnt k u ps A cap lo hi P T w hB hb
  · simp only [not_or] at hb
    obtain ⟨i, rfl⟩ := Int.eq_ofNat_of_zero_le (show 0 ≤ idx by omega)
    obtain ⟨c, rfl⟩ := Int.eq_ofNat_of_zero_le (show 0 ≤ cnt by omega)
    by_cases he : ps.length = dep i c
    · exact rcl_all i c k u ps A cap lo hi P T w hB hhi hlo hA (by omega) (by omega) (by omega) hn he hs hT
    · have e := climb_no (i : Int) (c : Int) k u ps (fun h => he (by have := h.2; rwa [Int.toNat_natCast, Int.toNat_natCast] at this))
      rw [e.1, e.2]
      exact rcl_len i c k u ps A cap lo hi P T w hB (by omega) (by omega) (by omega) hn he
/-- where the path lies below the book -/
theorem rk_climbLo (idx cnt : Int) (k u : ByteArray) (ps : List ByteArray) (A : Option Addr) (cap lo hi P : Nat) (T : List ByteArray) (w : World) (hB : BookW w lo hi P T) (hhi : hi ≤ w.heap.size) (hlo : lo ≤ w.heap.size) (hA : TxLo w lo A ps) (hn : ps.length ≤ 100) (hs : k.size + u.size ≤ 90000) (hT : T.length + 110 < 1000) :
    Calls Tryd.prog 74 #[.pointer (some ⟨P, 0, none⟩), .agg #[.int .i64 idx, .int .i64 cnt, .string k, .string u, .slice A ps.length cap]] w (CbPost w lo hi P (askC idx cnt (k, u) ps ++ T) (climbV idx cnt (k, u) ps)) :=
  rk_climb idx cnt k u ps A cap lo hi P T w hB hhi hlo (hA.o hi) hn hs hT
end Go.Proofs.YtclloplkbajebaaDoor
