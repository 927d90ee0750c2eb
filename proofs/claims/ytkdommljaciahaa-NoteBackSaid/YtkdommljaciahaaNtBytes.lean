/- Contracts of carracklaw14.bytes of the three closures of NotePuts. Condition: lengths. -/
import Derived.WalkSpells
import Derived.Test.YtkdommljaciahaaNtRefP
namespace Go.Proofs.Ytkdommljaciahaa
open Go.RowKit
set_option linter.unusedVariables false
/-- a box that a closure caught -/
theorem box_cell {w : World} {X : Nat} {v : Value} {t : TypeId} {fr : Nat × Nat} (h : w.heap[X]? = some (.cells #[v] t fr)) : w.cell? ⟨X, 0, none⟩ = some v := Kq.blk_cell h 0
/-- what bytes tells, of a writing that begins afresh -/
theorem bytes_end {w w2 : World} {ok : Prop} {add : List Nat} {n : Nat} {x : Ending} (hp : WrStep (w.alloc (.cells #[.int .i64 0, .slice none 0 0] 62 (0, 0))) w.heap.size w.heap.size (.slice none 0 0) 0 [] ok add n x w2) (hadd : ok → ∀ b ∈ add, b < 256) :
    x = .returned (.tuple #[]) ∧ Below w.heap.size w w2 ∧ ∃ e v' l, Wr w2 w.heap.size w.heap.size e v' l ∧ (ok → e = 0 ∧ l = add) ∧ (¬ ok → e = 1) := by
  obtain ⟨e, l, ⟨rfl, v', W, K, F⟩, hs, ha, hb⟩ := hp
  refine ⟨rfl, ?_, e, v', l, W, fun h => by simpa using ha h, fun h => by have := hb h; simpa [keepE] using this⟩
  exact (Kq.below_alloc w _).trans (K.below (Kq.below_alloc w _).size (fun k _ hk => by
    rcases hk with rfl | hk
    · exact Nat.le_refl _
    · cases hk))
set_option maxRecDepth 100000 in
set_option maxHeartbeats 2000000 in
theorem cl_notes (X B base : Nat) (e : Int) (v : Value) (acc : List Nat) (A : Option Addr) (cap : Nat) (ns : List NtV) (w : World) (t : TypeId) (hX : w.heap[X]? = some (.cells #[.slice A ns.length cap] t (0, 0))) (h : Wr w base B e v acc) (hA : EnAt NtV.nc w A ns)
    (hAB : ∀ g o, 0 < ns.length → A = some ⟨g, o, none⟩ → g ≠ B ∧ some g ≠ v.ownBlock) (hwf : ∀ n ∈ ns, n.wf) (hns : ns.length ≤ 300) (hl : acc.length ≤ 900000) :
    Calls Try.prog 9 #[.pointer (some ⟨B, 0, none⟩), .pointer (some ⟨X, 0, none⟩)] w (PutPost w base B v e acc [1, 2, 3, 4] ns) := by
  have c0 := box_cell hX
  have H := Lib.hid (And.intro h (And.intro hA (And.intro hAB (And.intro hwf (And.intro hns hl)))))
  clear h hA hAB hwf hns hl hX
  go_enter Try.func9, Try.ntmps9
  go_wp2_with fail
  refine (nt_putnotes base B e v acc A cap ns _ H.out.1 H.out.2.1 H.out.2.2.1 H.out.2.2.2.1 H.out.2.2.2.2.1 H.out.2.2.2.2.2).mono ?_
  intro x w2 hp
  obtain ⟨e2, l2, hp1, hr⟩ := hp
  have HP : Hid (PutPost w base B v e acc [1, 2, 3, 4] ns (.returned (.tuple #[])) w2) := Lib.hid (by obtain ⟨rfl, hp2⟩ := hp1; exact ⟨e2, l2, ⟨rfl, hp2⟩, hr⟩)
  obtain ⟨rfl, -⟩ := hp1
  clear hr
  go_wp2
  first | go_end0 | refine bodyPost_ret (results_none rfl _ _ _) rfl ?_
  exact HP.out
set_option maxRecDepth 100000 in
set_option maxHeartbeats 2000000 in
theorem bt_notes (X : Nat) (A : Option Addr) (cap : Nat) (ns : List NtV) (w : World) (t : TypeId) (hX : w.heap[X]? = some (.cells #[.slice A ns.length cap] t (0, 0))) (hA : EnAt NtV.nc w A ns) (hwf : ∀ n ∈ ns, n.wf) (hns : ns.length ≤ 300) :
    Calls Try.prog 8 #[.func (.func 9) #[] #[.pointer (some ⟨X, 0, none⟩)]] w fun x w' => x = .returned (.tuple #[.string (listT [1, 2, 3, 4] ns), .int .i64 (listE [1, 2, 3, 4] ns)]) ∧ Below w.heap.size w w' := by
  have hb := Kq.below_alloc w (.cells #[.int .i64 0, .slice none 0 0] 62 (0, 0))
  have H : Hid ((w.alloc (.cells #[.int .i64 0, .slice none 0 0] 62 (0, 0))).heap[X]? = some (.cells #[.slice A ns.length cap] t (0, 0)) ∧ Wr (w.alloc (.cells #[.int .i64 0, .slice none 0 0] 62 (0, 0))) w.heap.size w.heap.size 0 (.slice none 0 0) [] ∧ EnAt NtV.nc (w.alloc (.cells #[.int .i64 0, .slice none 0 0] 62 (0, 0))) A ns) := Lib.hid ⟨Kq.below_blk hb hX (Kq.blk_lt hX), wr_new w, hA.below hb⟩
  have HAB : Hid (∀ g o, 0 < ns.length → A = some ⟨g, o, none⟩ → g ≠ w.heap.size ∧ some g ≠ (Value.slice none 0 0).ownBlock) := Lib.hid (fun g o h0 hg => by
    obtain ⟨b, off, he, hlt, _⟩ := hA 0 h0
    rw [hg] at he
    simp only [Option.some.injEq, Addr.mk.injEq] at he
    exact ⟨by omega, fun h => by cases h⟩)
  have HW := Lib.hid (And.intro hwf hns)
  have HLT : Hid ((ns.length ≤ 255 ∧ ∀ n ∈ ns, EnOk [1, 2, 3, 4] n) → ∀ b ∈ [ns.length] ++ encL ns, b < 256) := Lib.hid (fun h b hb => by
    rcases List.mem_append.1 hb with h1 | h1
    · simp only [List.mem_singleton] at h1; have := h.1; omega
    · exact encL_lt [1, 2, 3, 4] (by decide) ns h.2 b h1)
  have HTX : Hid ((ns.length ≤ 255 ∧ ∀ n ∈ ns, EnOk [1, 2, 3, 4] n) → listT [1, 2, 3, 4] ns = txt ([ns.length] ++ encL ns) ∧ listE [1, 2, 3, 4] ns = 0) := Lib.hid (fun h => ⟨by unfold listT preT; rw [if_pos h, List.take_length], if_pos h⟩)
  have HTN : Hid (¬ (ns.length ≤ 255 ∧ ∀ n ∈ ns, EnOk [1, 2, 3, 4] n) → listT [1, 2, 3, 4] ns = ⟨#[]⟩ ∧ listE [1, 2, 3, 4] ns = 1) := Lib.hid (fun h => ⟨if_neg h, if_neg h⟩)
  clear hX hA hwf hns hb
  go_enter Try.func8, Try.ntmps8
  go_wp2_with fail
  refine (cl_notes X w.heap.size w.heap.size 0 (.slice none 0 0) [] A cap ns _ t H.out.1 H.out.2.1 H.out.2.2 HAB.out HW.out.1 HW.out.2 (by simp)).mono ?_
  intro x w2 hp
  obtain ⟨rfl, hbl, e, v', l, W, hyes, hno⟩ := bytes_end hp HLT.out
  by_cases hok : ns.length ≤ 255 ∧ ∀ n ∈ ns, EnOk [1, 2, 3, 4] n
  · obtain ⟨rfl, rfl⟩ := hyes hok
    have HE := Lib.hid (HTX.out hok)
    have HL := Lib.hid (HLT.out hok)
    have H2 := Lib.hid (And.intro W hbl)
    clear hok hyes hno hp W hbl HTX HTN HLT H HAB
    go_wp2_with fail
    refine (wr_bytes_ok _ _ v' _ _ H2.out.1 HL.out).mono ?_
    rintro x w3 ⟨rfl, rfl⟩
    go_wp2
    go_ret2
    exact ⟨by rw [HE.out.1, HE.out.2]; rfl, H2.out.2⟩
  · have he := hno hok
    subst he
    have HE := Lib.hid (HTN.out hok)
    have H2 := Lib.hid (And.intro W hbl)
    clear hok hyes hno hp W hbl HTX HTN HLT H HAB
    go_wp2_with fail
    refine (wr_bytes_bad _ _ 1 v' l _ H2.out.1 (by decide)).mono ?_
    rintro x w3 ⟨rfl, rfl⟩
    go_wp2
    go_ret2
    exact ⟨by rw [HE.out.1, HE.out.2]; rfl, H2.out.2⟩
set_option maxRecDepth 100000 in
set_option maxHeartbeats 2000000 in
theorem cl_items (X B base : Nat) (e : Int) (v : Value) (acc : List Nat) (A : Option Addr) (cap : Nat) (ns : List NtV) (w : World) (t : TypeId) (hX : w.heap[X]? = some (.cells #[.slice A ns.length cap] t (0, 0))) (h : Wr w base B e v acc) (hA : EnAt NtV.ic w A ns)
    (hAB : ∀ g o, 0 < ns.length → A = some ⟨g, o, none⟩ → g ≠ B ∧ some g ≠ v.ownBlock) (hwf : ∀ n ∈ ns, n.wf) (hns : ns.length ≤ 300) (hl : acc.length ≤ 900000) :
    Calls Try.prog 12 #[.pointer (some ⟨B, 0, none⟩), .pointer (some ⟨X, 0, none⟩)] w (PutPost w base B v e acc [1, 2] ns) := by
  have c0 := box_cell hX
  have H := Lib.hid (And.intro h (And.intro hA (And.intro hAB (And.intro hwf (And.intro hns hl)))))
  clear h hA hAB hwf hns hl hX
  go_enter Try.func12, Try.ntmps12
  go_wp2_with fail
  refine (nt_putitems base B e v acc A cap ns _ H.out.1 H.out.2.1 H.out.2.2.1 H.out.2.2.2.1 H.out.2.2.2.2.1 H.out.2.2.2.2.2).mono ?_
  intro x w2 hp
  obtain ⟨e2, l2, hp1, hr⟩ := hp
  have HP : Hid (PutPost w base B v e acc [1, 2] ns (.returned (.tuple #[])) w2) := Lib.hid (by obtain ⟨rfl, hp2⟩ := hp1; exact ⟨e2, l2, ⟨rfl, hp2⟩, hr⟩)
  obtain ⟨rfl, -⟩ := hp1
  clear hr
  go_wp2
  first | go_end0 | refine bodyPost_ret (results_none rfl _ _ _) rfl ?_
  exact HP.out
set_option maxRecDepth 100000 in
set_option maxHeartbeats 2000000 in
theorem bt_items (X : Nat) (A : Option Addr) (cap : Nat) (ns : List NtV) (w : World) (t : TypeId) (hX : w.heap[X]? = some (.cells #[.slice A ns.length cap] t (0, 0))) (hA : EnAt NtV.ic w A ns) (hwf : ∀ n ∈ ns, n.wf) (hns : ns.length ≤ 300) :
    Calls Try.prog 8 #[.func (.func 12) #[] #[.pointer (some ⟨X, 0, none⟩)]] w fun x w' => x = .returned (.tuple #[.string (listT [1, 2] ns), .int .i64 (listE [1, 2] ns)]) ∧ Below w.heap.size w w' := by
  have hb := Kq.below_alloc w (.cells #[.int .i64 0, .slice none 0 0] 62 (0, 0))
  have H : Hid ((w.alloc (.cells #[.int .i64 0, .slice none 0 0] 62 (0, 0))).heap[X]? = some (.cells #[.slice A ns.length cap] t (0, 0)) ∧ Wr (w.alloc (.cells #[.int .i64 0, .slice none 0 0] 62 (0, 0))) w.heap.size w.heap.size 0 (.slice none 0 0) [] ∧ EnAt NtV.ic (w.alloc (.cells #[.int .i64 0, .slice none 0 0] 62 (0, 0))) A ns) := Lib.hid ⟨Kq.below_blk hb hX (Kq.blk_lt hX), wr_new w, hA.below hb⟩
  have HAB : Hid (∀ g o, 0 < ns.length → A = some ⟨g, o, none⟩ → g ≠ w.heap.size ∧ some g ≠ (Value.slice none 0 0).ownBlock) := Lib.hid (fun g o h0 hg => by
    obtain ⟨b, off, he, hlt, _⟩ := hA 0 h0
    rw [hg] at he
    simp only [Option.some.injEq, Addr.mk.injEq] at he
    exact ⟨by omega, fun h => by cases h⟩)
  have HW := Lib.hid (And.intro hwf hns)
  have HLT : Hid ((ns.length ≤ 255 ∧ ∀ n ∈ ns, EnOk [1, 2] n) → ∀ b ∈ [ns.length] ++ encL ns, b < 256) := Lib.hid (fun h b hb => by
    rcases List.mem_append.1 hb with h1 | h1
    · simp only [List.mem_singleton] at h1; have := h.1; omega
    · exact encL_lt [1, 2] (by decide) ns h.2 b h1)
  have HTX : Hid ((ns.length ≤ 255 ∧ ∀ n ∈ ns, EnOk [1, 2] n) → listT [1, 2] ns = txt ([ns.length] ++ encL ns) ∧ listE [1, 2] ns = 0) := Lib.hid (fun h => ⟨by unfold listT preT; rw [if_pos h, List.take_length], if_pos h⟩)
  have HTN : Hid (¬ (ns.length ≤ 255 ∧ ∀ n ∈ ns, EnOk [1, 2] n) → listT [1, 2] ns = ⟨#[]⟩ ∧ listE [1, 2] ns = 1) := Lib.hid (fun h => ⟨if_neg h, if_neg h⟩)
  clear hX hA hwf hns hb
  go_enter Try.func8, Try.ntmps8
  go_wp2_with fail
  refine (cl_items X w.heap.size w.heap.size 0 (.slice none 0 0) [] A cap ns _ t H.out.1 H.out.2.1 H.out.2.2 HAB.out HW.out.1 HW.out.2 (by simp)).mono ?_
  intro x w2 hp
  obtain ⟨rfl, hbl, e, v', l, W, hyes, hno⟩ := bytes_end hp HLT.out
  by_cases hok : ns.length ≤ 255 ∧ ∀ n ∈ ns, EnOk [1, 2] n
  · obtain ⟨rfl, rfl⟩ := hyes hok
    have HE := Lib.hid (HTX.out hok)
    have HL := Lib.hid (HLT.out hok)
    have H2 := Lib.hid (And.intro W hbl)
    clear hok hyes hno hp W hbl HTX HTN HLT H HAB
    go_wp2_with fail
    refine (wr_bytes_ok _ _ v' _ _ H2.out.1 HL.out).mono ?_
    rintro x w3 ⟨rfl, rfl⟩
    go_wp2
    go_ret2
    exact ⟨by rw [HE.out.1, HE.out.2]; rfl, H2.out.2⟩
  · have he := hno hok
    subst he
    have HE := Lib.hid (HTN.out hok)
    have H2 := Lib.hid (And.intro W hbl)
    clear hok hyes hno hp W hbl HTX HTN HLT H HAB
    go_wp2_with fail
    refine (wr_bytes_bad _ _ 1 v' l _ H2.out.1 (by decide)).mono ?_
    rintro x w3 ⟨rfl, rfl⟩
    go_wp2
    go_ret2
    exact ⟨by rw [HE.out.1, HE.out.2]; rfl, H2.out.2⟩
/-- what is told of a place -/
def placeT (a i : Int) : ByteArray := if 0 ≤ i ∧ i ≤ 65535 then txt (num8 a.toNat ++ num8 i.toNat) else ⟨#[]⟩
def placeE (i : Int) : Int := if 0 ≤ i ∧ i ≤ 65535 then 0 else 1
theorem nt_place_step (base B : Nat) (e : Int) (v : Value) (l : List Nat) (a i : Int) (w : World) (h : Wr w base B e v l) (ha : 0 ≤ a ∧ a < 18446744073709551616) (hl : l.length ≤ 1000000) :
    Calls Try.prog 16 #[.pointer (some ⟨B, 0, none⟩), .agg #[.int .u64 a, .int .i64 i]] w (WrStep w base B v e l (0 ≤ i ∧ i ≤ 65535) (num8 a.toNat ++ num8 i.toNat) 16) := by
  by_cases hi : 0 ≤ i ∧ i ≤ 65535
  · obtain ⟨an, rfl⟩ := Int.eq_ofNat_of_zero_le ha.1
    obtain ⟨n, rfl⟩ := Int.eq_ofNat_of_zero_le hi.1
    refine (nt_place_ok base B e v l an n w h (by omega) (by omega) hl).mono fun x w' hp => ?_
    exact ⟨e, _, hp, by simp [num8], fun _ => ⟨rfl, rfl⟩, fun h => absurd hi h⟩
  · refine (nt_place_bad base B e v l a i w h (by omega)).mono fun x w' hp => ?_
    exact ⟨_, l, hp, by omega, fun h => absurd h hi, fun _ => rfl⟩
theorem r14_place (a i : Int) (w : World) (ha : 0 ≤ a ∧ a < 18446744073709551616) :
    Calls Try.prog 17 #[.agg #[.int .u64 a, .int .i64 i]] w fun x w' => x = .returned (.tuple #[.string (placeT a i), .int .i64 (placeE i)]) ∧ Below w.heap.size w w' := by
  unfold placeT placeE
  by_cases hi : 0 ≤ i ∧ i ≤ 65535
  · rw [if_pos hi, if_pos hi]
    obtain ⟨an, rfl⟩ := Int.eq_ofNat_of_zero_le ha.1
    obtain ⟨n, rfl⟩ := Int.eq_ofNat_of_zero_le hi.1
    exact r14_place_ok an n w (by omega) (by omega)
  · rw [if_neg hi, if_neg hi]
    exact r14_place_bad a i w (by omega)
theorem r14_notes (A : Option Addr) (cap : Nat) (ns : List NtV) (w : World) (hA : EnAt NtV.nc w A ns) (hwf : ∀ n ∈ ns, n.wf) :
    Calls Try.prog 11 #[.slice A ns.length cap] w fun x w' => x = .returned (.tuple #[.string (listT [1, 2, 3, 4] ns), .int .i64 (listE [1, 2, 3, 4] ns)]) ∧ Below w.heap.size w w' := by
  by_cases h : 255 < ns.length
  · unfold listT listE
    rw [if_neg (fun x => by have := x.1; omega), if_neg (fun x => by have := x.1; omega)]
    exact r14_notes_long A cap ns w h
  · exact r14_notes_short A cap ns w hA (by omega) hwf
theorem r14_items (A : Option Addr) (cap : Nat) (ns : List NtV) (w : World) (hA : EnAt NtV.ic w A ns) (hwf : ∀ n ∈ ns, n.wf) :
    Calls Try.prog 14 #[.slice A ns.length cap] w fun x w' => x = .returned (.tuple #[.string (listT [1, 2] ns), .int .i64 (listE [1, 2] ns)]) ∧ Below w.heap.size w w' := by
  by_cases h : 255 < ns.length
  · unfold listT listE
    rw [if_neg (fun x => by have := x.1; omega), if_neg (fun x => by have := x.1; omega)]
    exact r14_items_long A cap ns w h
  · exact r14_items_short A cap ns w hA (by omega) hwf
set_option maxRecDepth 100000 in
set_option maxHeartbeats 2000000 in
theorem cl_place (X B base : Nat) (e : Int) (v : Value) (acc : List Nat) (a i : Int) (w : World) (hX : QB w X a i) (h : Wr w base B e v acc) (ha : 0 ≤ a ∧ a < 18446744073709551616) (hl : acc.length ≤ 900000) :
    Calls Try.prog 15 #[.pointer (some ⟨B, 0, none⟩), .pointer (some ⟨X, 0, none⟩)] w (WrStep w base B v e acc (0 ≤ i ∧ i ≤ 65535) (num8 a.toNat ++ num8 i.toNat) 16) := by
  have c0 := hX.c0
  have c1 := hX.c1
  have H := Lib.hid (And.intro h (And.intro ha hl))
  clear h ha hl hX
  go_enter Try.func15, Try.ntmps15
  go_wp2_with fail
  refine (nt_place_step base B e v acc a i _ H.out.1 H.out.2.1 (by have := H.out.2.2; omega)).mono ?_
  intro x w2 hp
  obtain ⟨e2, l2, hp1, hr⟩ := hp
  have HP : Hid (WrStep w base B v e acc (0 ≤ i ∧ i ≤ 65535) (num8 a.toNat ++ num8 i.toNat) 16 (.returned (.tuple #[])) w2) := Lib.hid (by obtain ⟨rfl, hp2⟩ := hp1; exact ⟨e2, l2, ⟨rfl, hp2⟩, hr⟩)
  obtain ⟨rfl, -⟩ := hp1
  clear hr
  go_wp2
  first | go_end0 | refine bodyPost_ret (results_none rfl _ _ _) rfl ?_
  exact HP.out
set_option maxRecDepth 100000 in
set_option maxHeartbeats 2000000 in
theorem bt_place (X : Nat) (a i : Int) (w : World) (hX : QB w X a i) (ha : 0 ≤ a ∧ a < 18446744073709551616) :
    Calls Try.prog 8 #[.func (.func 15) #[] #[.pointer (some ⟨X, 0, none⟩)]] w fun x w' => x = .returned (.tuple #[.string (placeT a i), .int .i64 (placeE i)]) ∧ Below w.heap.size w w' := by
  have hb := Kq.below_alloc w (.cells #[.int .i64 0, .slice none 0 0] 62 (0, 0))
  have H : Hid (QB (w.alloc (.cells #[.int .i64 0, .slice none 0 0] 62 (0, 0))) X a i ∧ Wr (w.alloc (.cells #[.int .i64 0, .slice none 0 0] 62 (0, 0))) w.heap.size w.heap.size 0 (.slice none 0 0) []) := Lib.hid ⟨⟨Kq.below_blk hb hX.blk (Kq.blk_lt hX.blk)⟩, wr_new w⟩
  have HW := Lib.hid ha
  have HLT : Hid ((0 ≤ i ∧ i ≤ 65535) → ∀ b ∈ num8 a.toNat ++ num8 i.toNat, b < 256) := Lib.hid (fun h b hb => by
    rcases List.mem_append.1 hb with h1 | h1
    · exact num8_lt _ b h1
    · exact num8_lt _ b h1)
  have HTX : Hid ((0 ≤ i ∧ i ≤ 65535) → placeT a i = txt (num8 a.toNat ++ num8 i.toNat) ∧ placeE i = 0) := Lib.hid (fun h => ⟨if_pos h, if_pos h⟩)
  have HTN : Hid (¬ (0 ≤ i ∧ i ≤ 65535) → placeT a i = ⟨#[]⟩ ∧ placeE i = 1) := Lib.hid (fun h => ⟨if_neg h, if_neg h⟩)
  clear hX ha hb
  go_enter Try.func8, Try.ntmps8
  go_wp2_with fail
  refine (cl_place X w.heap.size w.heap.size 0 (.slice none 0 0) [] a i _ H.out.1 H.out.2 HW.out (by simp)).mono ?_
  intro x w2 hp
  obtain ⟨rfl, hbl, e, v', l, W, hyes, hno⟩ := bytes_end hp HLT.out
  by_cases hok : 0 ≤ i ∧ i ≤ 65535
  · obtain ⟨rfl, rfl⟩ := hyes hok
    have HE := Lib.hid (HTX.out hok)
    have HL := Lib.hid (HLT.out hok)
    have H2 := Lib.hid (And.intro W hbl)
    clear hok hyes hno hp W hbl HTX HTN HLT H
    go_wp2_with fail
    refine (wr_bytes_ok _ _ v' _ _ H2.out.1 HL.out).mono ?_
    rintro x w3 ⟨rfl, rfl⟩
    go_wp2
    go_ret2
    exact ⟨by rw [HE.out.1, HE.out.2]; rfl, H2.out.2⟩
  · have he := hno hok
    subst he
    have HE := Lib.hid (HTN.out hok)
    have H2 := Lib.hid (And.intro W hbl)
    clear hok hyes hno hp W hbl HTX HTN HLT H
    go_wp2_with fail
    refine (wr_bytes_bad _ _ 1 v' l _ H2.out.1 (by decide)).mono ?_
    rintro x w3 ⟨rfl, rfl⟩
    go_wp2
    go_ret2
    exact ⟨by rw [HE.out.1, HE.out.2]; rfl, H2.out.2⟩
end Go.Proofs.Ytkdommljaciahaa
