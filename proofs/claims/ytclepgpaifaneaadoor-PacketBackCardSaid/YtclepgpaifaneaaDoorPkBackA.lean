/- Merged: PkRef, PkBackM, PkBackA. Contracts of carrackref10.Bytes, Commitment, Answer, of a packet that may be. Condition: sizes. Two packets among the arguments; what is put and got. No condition. carracklaw10.PacketBack walked: early exits; packets that may not be. Condition: the constants lie where they lie. -/
import Derived.WalkSpells
import Derived.Deep.RegionHeld
import Derived.Test.YtclepgpaifaneaaDoorPkDig
import Derived.Test.YtclepgpaifaneaaDoorPkKey
import Derived.Test.YtclepgpaifaneaaDoorPkOpen
import Derived.Test.YtclepgpaifaneaaDoorShBook
import Derived.Test.YtclepgpaifaneaaDoorHeldMono
namespace Go.Proofs.YtclepgpaifaneaaDoor
open Go.RowKit
set_option linter.unusedVariables false
theorem PB.belowW {w w' : World} {H : Nat} {f q t : Int} {d : ByteArray} (h : PB w H f q t d) (hb : Below w.heap.size w w') : PB w' H f q t d := ⟨Kq.below_blk hb h.blk (Kq.blk_lt h.blk)⟩
theorem five_parts (fn qn tn : Nat) (d : ByteArray) (hf : fn ≤ 1) (hd : d.size ≤ 64) : (((txt (be fn 1) ++ txt (be qn 8)) ++ txt (be tn 8)) ++ txt (be d.size 2)) ++ d = txt (encP ⟨(fn : Int), (qn : Int), (tn : Int), d⟩) := by
  apply nl_inj
  have h2 : ∀ b ∈ hi2 d.size, b < 256 := by rw [← be2 d.size (by omega)]; exact be_lt _ _
  rw [be8, be8, be1 fn (by omega), be2 d.size (by omega), nl_append, nl_append, nl_append, nl_append, nl_txt [fn] (by simp; omega), nl_txt _ (num8_lt qn), nl_txt _ (num8_lt tn), nl_txt _ h2, nl_txt]
  · simp [encP]
  · intro b hb
    simp only [encP, Int.toNat_natCast, List.mem_append, List.mem_singleton] at hb
    rcases hb with ((rfl | hb) | hb) | (hb | hb)
    · omega
    · exact num8_lt _ b hb
    · exact num8_lt _ b hb
    · exact h2 b hb
    · exact nl_lt _ b hb
def BoxP (w' : World) (X : Nat) (f q t : Int) (d : ByteArray) : Prop := w'.cell? ⟨X, 0, none⟩ = some (.int .i64 f) ∧ w'.cell? ⟨X, 1, none⟩ = some (.int .u64 q) ∧ w'.cell? ⟨X, 2, none⟩ = some (.int .u64 t) ∧ w'.cell? ⟨X, 3, none⟩ = some (.string d)
theorem PB.box {w' : World} {X : Nat} {f q t : Int} {d : ByteArray} (h : PB w' X f q t d) : BoxP w' X f q t d := ⟨h.c0, h.c1, h.c2, h.c3⟩
set_option maxRecDepth 100000 in
set_option maxHeartbeats 1000000 in
theorem rf_bytes (fn qn tn : Nat) (d : ByteArray) (w : World) (hok : PkOk ⟨(fn : Int), (qn : Int), (tn : Int), d⟩) (hq : qn < M64) (ht : tn < M64) :
    Calls Tryd.prog 34 #[.agg #[.int .i64 (fn : Int), .int .u64 (qn : Int), .int .u64 (tn : Int), .string d]] w fun x w' => x = .returned (.string (comT ⟨(fn : Int), (qn : Int), (tn : Int), d⟩)) ∧ Below w.heap.size w w' := by
  have hf : fn ≤ 1 := by have := hok.2.1; simp only at this; omega
  have hd : d.size ≤ 64 := hok.2.2.2.2
  have HN1 := Lib.hid (fun w => ref_num fn 1 w (by unfold M64; omega) (by decide))
  have HN2 := Lib.hid (fun w => ref_num qn 8 w hq (by decide))
  have HN3 := Lib.hid (fun w => ref_num tn 8 w ht (by decide))
  have HN4 := Lib.hid (fun w => ref_num d.size 2 w (by unfold M64; omega) (by decide))
  have HFV := Lib.hid (five_parts fn qn tn d hf hd)
  have s1 : (txt (be fn 1)).size = 1 := by rw [txt_size, be_len]
  have s2 : (txt (be qn 8)).size = 8 := by rw [txt_size, be_len]
  have s3 : (txt (be tn 8)).size = 8 := by rw [txt_size, be_len]
  have s4 : (txt (be d.size 2)).size = 2 := by rw [txt_size, be_len]
  have P0 : Hid (PB (w.alloc (Obj.cells #[Value.int IntKind.i64 (fn : Int), Value.int IntKind.u64 (qn : Int), Value.int IntKind.u64 (tn : Int), Value.string d] 24)) w.heap.size fn qn tn d ∧ Below w.heap.size w (w.alloc (Obj.cells #[Value.int IntKind.i64 (fn : Int), Value.int IntKind.u64 (qn : Int), Value.int IntKind.u64 (tn : Int), Value.string d] 24))) := Lib.hid ⟨⟨Kq.blk_new _ _ _ _⟩, Kq.below_alloc _ _⟩
  have hlen : ¬ 9223372036854775807 < 19 + d.size := by omega
  have w1 : IntKind.u64.wrap (fn : Int) = (fn : Int) := IntWalk.u64_in _ (by omega)
  have w2 : IntKind.u64.wrap (d.size : Int) = (d.size : Int) := IntWalk.u64_in _ (by omega)
  clear hok hq ht
  generalize txt (be fn 1) = T1 at *
  generalize txt (be qn 8) = T2 at *
  generalize txt (be tn 8) = T3 at *
  generalize txt (be d.size 2) = T4 at *
  go_enter Tryd.func34, Tryd.ntmps34
  go_wp2
  refine wp_region_held_drew (S := fun w' => BoxP w' w.heap.size fn qn tn d) (by kernel_rfl) (PB.box ⟨P0.out.1.blk⟩) (fun hS0 => ?_)
  have PD : Hid (PB (w.alloc (Obj.cells #[Value.int IntKind.i64 (fn : Int), Value.int IntKind.u64 (qn : Int), Value.int IntKind.u64 (tn : Int), Value.string d] 24)).drew w.heap.size fn qn tn d ∧ Below w.heap.size w (w.alloc (Obj.cells #[Value.int IntKind.i64 (fn : Int), Value.int IntKind.u64 (qn : Int), Value.int IntKind.u64 (tn : Int), Value.string d] 24)).drew) := Lib.hid ⟨⟨P0.out.1.blk⟩, P0.out.2.drew⟩
  clear P0
  generalize (w.alloc (Obj.cells #[Value.int IntKind.i64 (fn : Int), Value.int IntKind.u64 (qn : Int), Value.int IntKind.u64 (tn : Int), Value.string d] 24)).drew = z0 at *
  unfold BoxP at hS0
  dsimp only [BoxP]
  refine wpAnyH_take (i := 0) (v := ?_) rfl (by kernel_rfl) (by kernel_rfl) (by kernel_rfl) (fun _ _ _ h => h) (Or.inl ⟨by kernel_rfl, ?_⟩) (by assumption) ?_
  rotate_left
  · intro w hSw; (try dsimp only at hSw); go_simp; (try with_reducible rfl)
  refine wpAnyH_take (i := 1) (v := ?_) rfl (by kernel_rfl) (by kernel_rfl) (by kernel_rfl) (fun _ _ _ h => h) (Or.inl ⟨by kernel_rfl, ?_⟩) (by assumption) ?_
  rotate_left
  · intro w hSw; (try dsimp only at hSw); go_simp; (try with_reducible rfl)
  refine wpAnyH_take (i := 2) (v := ?_) rfl (by kernel_rfl) (by kernel_rfl) (by kernel_rfl) (fun _ _ _ h => h) (Or.inl ⟨by kernel_rfl, ?_⟩) (by assumption) ?_
  rotate_left
  · intro w hSw; (try dsimp only at hSw); go_simp; (try with_reducible rfl)
  refine wpAnyH_take (i := 4) (v := ?_) rfl (by kernel_rfl) (by kernel_rfl) (by kernel_rfl) (fun _ _ _ h => h) (Or.inl ⟨by kernel_rfl, ?_⟩) (by assumption) ?_
  rotate_left
  · intro w hSw; (try dsimp only at hSw); go_simp; (try with_reducible rfl)
  refine wpAnyH_take (i := 5) (v := ?_) rfl (by kernel_rfl) (by kernel_rfl) (by kernel_rfl) (fun _ _ _ h => h) (Or.inl ⟨by kernel_rfl, ?_⟩) (by assumption) ?_
  rotate_left
  · intro w hSw; (try dsimp only at hSw); go_simp; (try with_reducible rfl)
  refine wpAnyH_take (i := 8) (v := ?_) rfl (by kernel_rfl) (by kernel_rfl) (by kernel_rfl) (fun _ _ _ h => h) (Or.inl ⟨by kernel_rfl, ?_⟩) (by assumption) ?_
  rotate_left
  · intro w hSw; (try dsimp only at hSw); go_simp; (try with_reducible rfl)
  refine wpAnyH_take (i := 9) (v := ?_) rfl (by kernel_rfl) (by kernel_rfl) (by kernel_rfl) (fun _ _ _ h => h) (Or.inl ⟨by kernel_rfl, ?_⟩) (by assumption) ?_
  rotate_left
  · intro w hSw; (try dsimp only at hSw); go_simp; (try with_reducible rfl)
  refine wpAnyH_take (i := 12) (v := ?_) rfl (by kernel_rfl) (by kernel_rfl) (by kernel_rfl) (fun _ _ _ h => h) (Or.inl ⟨by kernel_rfl, ?_⟩) (by assumption) ?_
  rotate_left
  · intro w hSw; (try dsimp only at hSw); go_simp; (try with_reducible rfl)
  refine wpAnyH_take (i := 13) (v := ?_) rfl (by kernel_rfl) (by kernel_rfl) (by kernel_rfl) (fun _ _ _ h => h) (Or.inl ⟨by kernel_rfl, ?_⟩) (by assumption) ?_
  rotate_left
  · intro w hSw; (try dsimp only at hSw); go_simp; (try with_reducible rfl)
  refine wpAnyH_take (i := 14) (v := ?_) rfl (by kernel_rfl) (by kernel_rfl) (by kernel_rfl) (fun _ _ _ h => h) (Or.inl ⟨by kernel_rfl, ?_⟩) (by assumption) ?_
  rotate_left
  · intro w hSw; (try dsimp only at hSw); go_simp; (try with_reducible rfl)
  refine wpAnyH_take (i := 15) (v := ?_) rfl (by kernel_rfl) (by kernel_rfl) (by kernel_rfl) (fun _ _ _ h => h) (Or.inl ⟨by kernel_rfl, ?_⟩) (by assumption) ?_
  rotate_left
  · intro w hSw; (try dsimp only at hSw); go_simp; (try with_reducible rfl)
  refine wpAnyH_take (i := 18) (v := ?_) rfl (by kernel_rfl) (by kernel_rfl) (by kernel_rfl) (fun _ _ _ h => h) (Or.inl ⟨by kernel_rfl, ?_⟩) (by assumption) ?_
  rotate_left
  · intro w hSw; (try dsimp only at hSw); go_simp; (try with_reducible rfl)
  refine wpAnyH_take (i := 19) (v := ?_) rfl (by kernel_rfl) (by kernel_rfl) (by kernel_rfl) (fun _ _ _ h => h) (Or.inl ⟨by kernel_rfl, ?_⟩) (by assumption) ?_
  rotate_left
  · intro w hSw; (try dsimp only at hSw); go_simp; (try with_reducible rfl)
  refine wpAnyH_ready (rs := [3]) (by kernel_rfl) (by simp) ?_
  refine AllReadyH.cons rfl (fun K hK => ?_) AllReadyH.nil
  go_simp
  refine (HN1.out _).mono ?_
  rintro e z1 ⟨rfl, hb1⟩
  have P1 : Hid (PB z1 w.heap.size fn qn tn d ∧ Below w.heap.size w z1) := Lib.hid ⟨PD.out.1.belowW hb1, PD.out.2.trans (hb1.mono PD.out.2.size)⟩
  clear hb1 PD hS0
  refine hK.out _ _ P1.out.1.box (fun hS0 => ?_)
  clear hK K
  unfold BoxP at hS0
  refine wpAnyH_ready (rs := [6]) (by kernel_rfl) (by simp) ?_
  refine AllReadyH.cons rfl (fun K hK => ?_) AllReadyH.nil
  go_simp
  refine (HN2.out _).mono ?_
  rintro e z2 ⟨rfl, hb2⟩
  have P2 : Hid (PB z2 w.heap.size fn qn tn d ∧ Below w.heap.size w z2) := Lib.hid ⟨P1.out.1.belowW hb2, P1.out.2.trans (hb2.mono P1.out.2.size)⟩
  clear hb2 P1 hS0
  refine hK.out _ _ P2.out.1.box (fun hS0 => ?_)
  clear hK K
  unfold BoxP at hS0
  refine wpAnyH_take (i := 7) (v := ?_) rfl (by kernel_rfl) (by kernel_rfl) (by kernel_rfl) (fun _ _ _ h => h) (Or.inl ⟨by kernel_rfl, ?_⟩) (by assumption) ?_
  rotate_left
  · intro w hSw; (try dsimp only at hSw); go_simp; (try with_reducible rfl)
  refine wpAnyH_ready (rs := [10]) (by kernel_rfl) (by simp) ?_
  refine AllReadyH.cons rfl (fun K hK => ?_) AllReadyH.nil
  go_simp
  refine (HN3.out _).mono ?_
  rintro e z3 ⟨rfl, hb3⟩
  have P3 : Hid (PB z3 w.heap.size fn qn tn d ∧ Below w.heap.size w z3) := Lib.hid ⟨P2.out.1.belowW hb3, P2.out.2.trans (hb3.mono P2.out.2.size)⟩
  clear hb3 P2 hS0
  refine hK.out _ _ P3.out.1.box (fun hS0 => ?_)
  clear hK K
  unfold BoxP at hS0
  refine wpAnyH_take (i := 11) (v := ?_) rfl (by kernel_rfl) (by kernel_rfl) (by kernel_rfl) (fun _ _ _ h => h) (Or.inl ⟨by kernel_rfl, ?_⟩) (by assumption) ?_
  rotate_left
  · intro w hSw; (try dsimp only at hSw); go_simp; (try with_reducible rfl)
  refine wpAnyH_ready (rs := [16]) (by kernel_rfl) (by simp) ?_
  refine AllReadyH.cons rfl (fun K hK => ?_) AllReadyH.nil
  go_simp
  refine (HN4.out _).mono ?_
  rintro e z4 ⟨rfl, hb4⟩
  have P4 : Hid (PB z4 w.heap.size fn qn tn d ∧ Below w.heap.size w z4) := Lib.hid ⟨P3.out.1.belowW hb4, P3.out.2.trans (hb4.mono P3.out.2.size)⟩
  clear hb4 P3 hS0
  refine hK.out _ _ P4.out.1.box (fun hS0 => ?_)
  clear hK K
  unfold BoxP at hS0
  refine wpAnyH_take (i := 17) (v := ?_) rfl (by kernel_rfl) (by kernel_rfl) (by kernel_rfl) (fun _ _ _ h => h) (Or.inl ⟨by kernel_rfl, ?_⟩) (by assumption) ?_
  rotate_left
  · intro w hSw; (try dsimp only at hSw); go_simp; (try with_reducible rfl)
  refine wpAnyH_take (i := 20) (v := ?_) rfl (by kernel_rfl) (by kernel_rfl) (by kernel_rfl) (fun _ _ _ h => h) (Or.inl ⟨by kernel_rfl, ?_⟩) (by assumption) ?_
  rotate_left
  · intro w hSw; (try dsimp only at hSw); go_simp; (try with_reducible rfl)
  refine wpAnyH_take (i := 21) (v := ?_) rfl (by kernel_rfl) (by kernel_rfl) (by kernel_rfl) (fun _ _ _ h => h) (Or.inl ⟨by kernel_rfl, ?_⟩) (by assumption) ?_
  rotate_left
  · intro w hSw; (try dsimp only at hSw); go_simp; (try with_reducible rfl)
  refine wpAnyH_done (by kernel_rfl) ?_ _
  go_wp2
  go_ret
  exact ⟨by rw [HFV.out]; rfl, P4.out.2⟩
set_option maxRecDepth 100000 in
set_option maxHeartbeats 1000000 in
theorem rf_commit (lo P : Nat) (T : List ByteArray) (f q t : Int) (d : ByteArray) (w : World) (h : BookS w lo P T) (hlo : lo ≤ w.heap.size) (hT : T.length < 1000) (hok : PkOk ⟨f, q, t, d⟩) (hq : 0 ≤ q ∧ q < 18446744073709551616) (ht : 0 ≤ t ∧ t < 18446744073709551616) :
    Calls Tryd.prog 17 #[.pointer (some ⟨P, 0, none⟩), .agg #[.int .i64 f, .int .u64 q, .int .u64 t, .string d]] w (BookPost w lo P T (comT ⟨f, q, t, d⟩)) := by
  have HX : Hid (∀ w0 w', BookPost w0 lo P T (comT ⟨f, q, t, d⟩) (.returned (.string (dgT (comT ⟨f, q, t, d⟩)))) w' → Below w.heap.size w w0 → BookPost w lo P T (comT ⟨f, q, t, d⟩) (.returned (.string (dgT (comT ⟨f, q, t, d⟩)))) w') := Lib.hid (fun w0 w' hp hb => ⟨rfl, hp.2.1, (hb.mono hlo).trans hp.2.2⟩)
  have H0 := Lib.hid (show BookS (w.alloc (Obj.cells #[Value.int IntKind.i64 f, Value.int IntKind.u64 q, Value.int IntKind.u64 t, Value.string d] 24)) lo P T ∧ PB (w.alloc (Obj.cells #[Value.int IntKind.i64 f, Value.int IntKind.u64 q, Value.int IntKind.u64 t, Value.string d] 24)) w.heap.size f q t d ∧ Below w.heap.size w (w.alloc (Obj.cells #[Value.int IntKind.i64 f, Value.int IntKind.u64 q, Value.int IntKind.u64 t, Value.string d] 24)) from ⟨h.below (Kq.below_alloc w _), ⟨Kq.blk_new _ _ _ _⟩, Kq.below_alloc w _⟩)
  have HOK := Lib.hid (And.intro hok (And.intro hq (And.intro ht (And.intro hlo hT))))
  obtain ⟨fn, rfl⟩ := Int.eq_ofNat_of_zero_le (show 0 ≤ f from hok.1)
  obtain ⟨qn, rfl⟩ := Int.eq_ofNat_of_zero_le hq.1
  obtain ⟨tn, rfl⟩ := Int.eq_ofNat_of_zero_le ht.1
  clear h hok hq ht hlo hT
  go_enter Tryd.func17, Tryd.ntmps17
  go_wp2_with fail
  refine (ref_right_ok _ _ _ d _ HOK.out.1 HOK.out.2.1.1 HOK.out.2.2.1.1).mono ?_
  rintro x w1 ⟨rfl, b1⟩
  have H1 := Lib.hid (And.intro (H0.out.1.below b1) (And.intro (H0.out.2.1.belowW b1) (H0.out.2.2.trans (b1.mono H0.out.2.2.size))))
  clear b1 H0
  have c0 := H1.out.2.1.c0
  have c1 := H1.out.2.1.c1
  have c2 := H1.out.2.1.c2
  have c3 := H1.out.2.1.c3
  go_wp2_with fail
  refine (rf_bytes fn qn tn d _ HOK.out.1 (by have := HOK.out.2.1.2; unfold M64; omega) (by have := HOK.out.2.2.1.2; unfold M64; omega)).mono ?_
  rintro x w2 ⟨rfl, b2⟩
  have H2 := Lib.hid (And.intro (H1.out.1.below b2) (H1.out.2.2.trans (b2.mono H1.out.2.2.size)))
  clear b2 H1 c0 c1 c2 c3
  have HZ := Lib.hid (comT_size _ HOK.out.1)
  have HZ0 := (comT_size _ HOK.out.1)
  
  obtain ⟨s, hs⟩ : ∃ s, s = comT ⟨(fn : Int), (qn : Int), (tn : Int), d⟩ := ⟨_, rfl⟩
  rw [← hs] at HX HZ 
  rw [← hs]
  have HS := Lib.hid hs
  clear hs 
  go_wp2_with fail
  refine (r_sum lo P T s _ H2.out.1 (Nat.le_trans HOK.out.2.2.2.1 H2.out.2.size) (by have := HZ.out; omega) HOK.out.2.2.2.2).mono ?_
  intro x w3 hp
  have HP := Lib.hid (HX.out w2 w3 (by rw [← hp.1]; exact hp) H2.out.2)
  obtain ⟨rfl, -⟩ := hp
  go_wp2
  go_ret
  have := HS.out
  subst this
  exact HP.out
set_option maxRecDepth 100000 in
set_option maxHeartbeats 1000000 in
theorem rf_answer (lo P : Nat) (T : List ByteArray) (f q t : Int) (d : ByteArray) (w : World) (h : BookS w lo P T) (hlo : lo ≤ w.heap.size) (hT : T.length < 1000) (hok : PkOk ⟨f, q, t, d⟩) (hq : 0 ≤ q ∧ q < 18446744073709551616) (ht : 0 ≤ t ∧ t < 18446744073709551616) :
    Calls Tryd.prog 18 #[.pointer (some ⟨P, 0, none⟩), .agg #[.int .i64 f, .int .u64 q, .int .u64 t, .string d]] w (BookPost w lo P T (ansT ⟨f, q, t, d⟩)) := by
  have HX : Hid (∀ w0 w', BookPost w0 lo P T (ansT ⟨f, q, t, d⟩) (.returned (.string (dgT (ansT ⟨f, q, t, d⟩)))) w' → Below w.heap.size w w0 → BookPost w lo P T (ansT ⟨f, q, t, d⟩) (.returned (.string (dgT (ansT ⟨f, q, t, d⟩)))) w') := Lib.hid (fun w0 w' hp hb => ⟨rfl, hp.2.1, (hb.mono hlo).trans hp.2.2⟩)
  have H0 := Lib.hid (show BookS (w.alloc (Obj.cells #[Value.int IntKind.i64 f, Value.int IntKind.u64 q, Value.int IntKind.u64 t, Value.string d] 24)) lo P T ∧ PB (w.alloc (Obj.cells #[Value.int IntKind.i64 f, Value.int IntKind.u64 q, Value.int IntKind.u64 t, Value.string d] 24)) w.heap.size f q t d ∧ Below w.heap.size w (w.alloc (Obj.cells #[Value.int IntKind.i64 f, Value.int IntKind.u64 q, Value.int IntKind.u64 t, Value.string d] 24)) from ⟨h.below (Kq.below_alloc w _), ⟨Kq.blk_new _ _ _ _⟩, Kq.below_alloc w _⟩)
  have HOK := Lib.hid (And.intro hok (And.intro hq (And.intro ht (And.intro hlo hT))))
  obtain ⟨fn, rfl⟩ := Int.eq_ofNat_of_zero_le (show 0 ≤ f from hok.1)
  obtain ⟨qn, rfl⟩ := Int.eq_ofNat_of_zero_le hq.1
  obtain ⟨tn, rfl⟩ := Int.eq_ofNat_of_zero_le ht.1
  clear h hok hq ht hlo hT
  go_enter Tryd.func18, Tryd.ntmps18
  go_wp2_with fail
  refine (ref_right_ok _ _ _ d _ HOK.out.1 HOK.out.2.1.1 HOK.out.2.2.1.1).mono ?_
  rintro x w1 ⟨rfl, b1⟩
  have H1 := Lib.hid (And.intro (H0.out.1.below b1) (And.intro (H0.out.2.1.belowW b1) (H0.out.2.2.trans (b1.mono H0.out.2.2.size))))
  clear b1 H0
  have c0 := H1.out.2.1.c0
  have c1 := H1.out.2.1.c1
  have c2 := H1.out.2.1.c2
  have c3 := H1.out.2.1.c3
  go_wp2_with fail
  refine (rf_bytes fn qn tn d _ HOK.out.1 (by have := HOK.out.2.1.2; unfold M64; omega) (by have := HOK.out.2.2.1.2; unfold M64; omega)).mono ?_
  rintro x w2 ⟨rfl, b2⟩
  have H2 := Lib.hid (And.intro (H1.out.1.below b2) (H1.out.2.2.trans (b2.mono H1.out.2.2.size)))
  clear b2 H1 c0 c1 c2 c3
  have HZ := Lib.hid (ansT_size _ HOK.out.1)
  have HZ0 := (comT_size _ HOK.out.1)
  have hac : ackT ++ comT ⟨(fn : Int), (qn : Int), (tn : Int), d⟩ = ansT ⟨(fn : Int), (qn : Int), (tn : Int), d⟩ := rfl
  have hlen : ¬ 9223372036854775807 < 3 + (comT ⟨(fn : Int), (qn : Int), (tn : Int), d⟩).size := by omega
  obtain ⟨u, hu⟩ : ∃ u, u = comT ⟨(fn : Int), (qn : Int), (tn : Int), d⟩ := ⟨_, rfl⟩
  rw [← hu] at hac hlen HZ0 ⊢
  clear hu
  obtain ⟨s, hs⟩ : ∃ s, s = ansT ⟨(fn : Int), (qn : Int), (tn : Int), d⟩ := ⟨_, rfl⟩
  rw [← hs] at HX HZ hac
  have hac' : ((⟨#[97, 99, 107]⟩ : ByteArray) ++ u) = s := hac
  have HS := Lib.hid hs
  clear hs hac
  go_wp2_with fail
  refine (r_sum lo P T s _ H2.out.1 (Nat.le_trans HOK.out.2.2.2.1 H2.out.2.size) (by have := HZ.out; omega) HOK.out.2.2.2.2).mono ?_
  intro x w3 hp
  have HP := Lib.hid (HX.out w2 w3 (by rw [← hp.1]; exact hp) H2.out.2)
  obtain ⟨rfl, -⟩ := hp
  go_wp2
  go_ret
  have := HS.out
  subst this
  exact HP.out
end Go.Proofs.YtclepgpaifaneaaDoor
namespace Go.Proofs.YtclepgpaifaneaaDoor
open Go.RowKit
set_option linter.unusedVariables false
structure TwoP (W w : World) (p q : PkV) : Prop where
  a : PB w W.heap.size p.f p.q p.t p.d
  b : PB w (W.heap.size + 1) q.f q.q q.t q.d
  bel : Below W.heap.size W w
theorem TwoP.start (W : World) (f q t f2 q2 t2 : Int) (d d2 : ByteArray) : TwoP W ((W.alloc (Obj.cells #[Value.int IntKind.i64 f, Value.int IntKind.u64 q, Value.int IntKind.u64 t, Value.string d] 24)).alloc (Obj.cells #[Value.int IntKind.i64 f2, Value.int IntKind.u64 q2, Value.int IntKind.u64 t2, Value.string d2] 24)) ⟨f, q, t, d⟩ ⟨f2, q2, t2, d2⟩ := by
  refine ⟨⟨?_⟩, ⟨?_⟩, ?_⟩
  · show ((W.alloc _).alloc _).heap[W.heap.size]? = _
    rw [Below.heap_alloc _ _ _ (by simp)]
    exact Kq.blk_new _ _ _ _
  · have := Kq.blk_new (W.alloc (Obj.cells #[Value.int IntKind.i64 f, Value.int IntKind.u64 q, Value.int IntKind.u64 t, Value.string d] 24)) #[Value.int IntKind.i64 f2, Value.int IntKind.u64 q2, Value.int IntKind.u64 t2, Value.string d2] 24 (0, 0)
    rw [World.size_alloc] at this
    exact this
  · exact (Kq.below_alloc W _).trans ((Kq.below_alloc _ _).mono (Kq.below_alloc W _).size)
theorem TwoP.below {W w w' : World} {p q : PkV} (h : TwoP W w p q) (hb : Below w.heap.size w w') : TwoP W w' p q := ⟨h.a.belowW hb, h.b.belowW hb, h.bel.trans (hb.mono h.bel.size)⟩
theorem TwoP.lt {W w : World} {p q : PkV} (h : TwoP W w p q) : W.heap.size + 1 < w.heap.size := Kq.blk_lt h.b.blk
theorem TwoP.from {W w w' : World} {p q : PkV} {lo : Nat} (h : TwoP W w p q) (hb : Below lo w w') (hlo : W.heap.size + 2 ≤ lo) : TwoP W w' p q :=
  ⟨⟨(hb.block _ (by omega)).trans h.a.blk⟩, ⟨(hb.block _ (by omega)).trans h.b.blk⟩, h.bel.trans (hb.mono (by omega))⟩
theorem TwoP.keep {W w w' : World} {p q : PkV} {B : Nat} (h : TwoP W w p q) (hk : Kq.Keeps (· = B) w w') (hB : W.heap.size + 2 ≤ B) : TwoP W w' p q :=
  ⟨h.a.later hk (by omega), h.b.later hk (by omega), h.bel.trans (hk.below h.bel.size (fun j _ e => by omega))⟩
theorem WrMid.fromB {w1 w : World} {v : Value} {e : Int} {l : List Nat} {o : Obj} (h : WrMid (w1.alloc o) w1.heap.size w1.heap.size (.slice none 0 0) e v l w) : Below w1.heap.size w1 w := WrMid.below h
/-- a packet that stands next is got, and what is behind is left -/
theorem get_next (p : PkV) (hok : PkOk p) (hq : 0 ≤ p.q ∧ p.q < 18446744073709551616) (ht : 0 ≤ p.t ∧ p.t < 18446744073709551616) (more : ByteArray) : getOf 0 (comT p ++ more) = (p, 0, more) := by
  have hs : nl (comT p ++ more) = encP p ++ nl more := by rw [nl_append]; unfold comT; rw [nl_txt _ (encP_lt p hok)]
  obtain ⟨h1, h2⟩ := get_whole p hok hq ht (comT p ++ more) more hs
  rw [h1]
  have h4 := (encP_take p (nl more)).2.2.2.1
  rw [← hs] at h4
  have hv : WireM.val (((nl (comT p ++ more)).drop 17).take 2) = p.d.size := by rw [h4, val_hi2]
  have hl : (nl (comT p ++ more)).length = 19 + p.d.size + more.size := by rw [hs, List.length_append, encP_len, nl_length]
  have hb := (get_all (comT p ++ more) (by rw [hv]; omega)).2.2.2
  rw [hv] at hb
  unfold Between at hb
  rw [List.take_length, hs, show 19 + p.d.size = (encP p).length from (encP_len p).symm, List.drop_left] at hb
  rw [nl_inj hb]
theorem four_texts (a b : ByteArray) (p q : PkV) (hp : PkOk p) (hq : PkOk q) : txt (nl a ++ encP p ++ encP q ++ nl b) = a ++ (comT p ++ (comT q ++ b)) := by
  apply nl_inj
  unfold comT
  rw [nl_txt, nl_append, nl_append, nl_append, nl_txt _ (encP_lt p hp), nl_txt _ (encP_lt q hq)]
  · simp
  · intro x hx
    simp only [List.mem_append] at hx
    rcases hx with ((h | h) | h) | h
    · exact nl_lt _ x h
    · exact encP_lt p hp x h
    · exact encP_lt q hq x h
    · exact nl_lt _ x h
theorem four_lt (a b : ByteArray) (p q : PkV) (hp : PkOk p) (hq : PkOk q) : ∀ x ∈ nl a ++ encP p ++ encP q ++ nl b, x < 256 := by
  intro x hx
  simp only [List.mem_append] at hx
  rcases hx with ((h | h) | h) | h
  · exact nl_lt _ x h
  · exact encP_lt p hp x h
  · exact encP_lt q hq x h
  · exact nl_lt _ x h
theorem comT_inj {p q : PkV} (hp : PkOk p) (hq : PkOk q) (p1 : 0 ≤ p.q ∧ p.q < 18446744073709551616) (p2 : 0 ≤ p.t ∧ p.t < 18446744073709551616) (q1 : 0 ≤ q.q ∧ q.q < 18446744073709551616) (q2 : 0 ≤ q.t ∧ q.t < 18446744073709551616) (h : comT p = comT q) : p = q := by
  have h1 := get_next p hp p1 p2 ⟨#[]⟩
  rw [h, get_next q hq q1 q2 ⟨#[]⟩] at h1
  exact (Prod.mk.inj h1).1.symm
theorem ansT_inj {p q : PkV} (hp : PkOk p) (hq : PkOk q) (h : ansT p = ansT q) : comT p = comT q := by
  apply nl_inj
  have := congrArg nl h
  unfold ansT at this
  rw [nl_append, nl_append] at this
  exact List.append_cancel_left this
theorem com_ans {p q : PkV} (hp : PkOk p) (hq : PkOk q) : comT p ≠ ansT q := by
  intro h
  have : (nl (comT p)).headD 0 = (nl (ansT q)).headD 0 := by rw [h]
  unfold comT ansT at this
  rw [nl_txt _ (encP_lt p hp), nl_append] at this
  have h1 : (encP p).headD 0 = p.f.toNat := rfl
  have h2 : (nl ackT ++ nl (txt (encP q))).headD 0 = 97 := rfl
  rw [h1, h2] at this
  have := hp.2.1
  omega
/-- a book that two unlike texts of one digest were asked of is marked -/
theorem book_marked {w : World} {lo P : Nat} {T : List ByteArray} (h : BookS w lo P T) {t u : ByteArray} (ht : t ∈ T) (hu : u ∈ T) (hd : dgT t = dgT u) (hne : t ≠ u) : w.cell? ⟨P, 3, none⟩ = some (.bool true) := by
  obtain ⟨A, ca, B, cb, M, f, c, hb, _, _, _, hi, _⟩ := h.ex
  have := hi.clash ht hu hd hne
  subst this
  exact Kq.blk_cell hb 3
theorem TwoP.drew {W w : World} {p q : PkV} (h : TwoP W w p q) : TwoP W w.drew p q := ⟨⟨h.a.blk⟩, ⟨h.b.blk⟩, h.bel.drew⟩
def TwoC (w : World) (H : Nat) (f q t : Int) (d : ByteArray) (f2 q2 t2 : Int) (d2 : ByteArray) : Prop := (w.cell? ⟨H, 0, none⟩ = some (.int .i64 f) ∧ w.cell? ⟨H, 1, none⟩ = some (.int .u64 q) ∧ w.cell? ⟨H, 2, none⟩ = some (.int .u64 t) ∧ w.cell? ⟨H, 3, none⟩ = some (.string d)) ∧
  w.cell? ⟨H + 1, 0, none⟩ = some (.int .i64 f2) ∧ w.cell? ⟨H + 1, 1, none⟩ = some (.int .u64 q2) ∧ w.cell? ⟨H + 1, 2, none⟩ = some (.int .u64 t2) ∧ w.cell? ⟨H + 1, 3, none⟩ = some (.string d2)
theorem TwoP.cells {W w : World} {f q t f2 q2 t2 : Int} {d d2 : ByteArray} (h : TwoP W w ⟨f, q, t, d⟩ ⟨f2, q2, t2, d2⟩) : TwoC w W.heap.size f q t d f2 q2 t2 d2 := ⟨⟨h.a.c0, h.a.c1, h.a.c2, h.a.c3⟩, h.b.c0, h.b.c1, h.b.c2, h.b.c3⟩
end Go.Proofs.YtclepgpaifaneaaDoor
namespace Go.Proofs.YtclepgpaifaneaaDoor.packetBack
open Go.RowKit
set_option linter.unusedVariables false
set_option linter.unusedSimpArgs false
set_option maxRecDepth 100000 in
set_option maxHeartbeats 20000000 in
theorem early0 (f q t f2 q2 t2 : Int) (d d2 a b : ByteArray) (W : World) (h0 : 300 < d.size) :
    Calls Tryd.prog 3 #[.agg #[.int .i64 f, .int .u64 q, .int .u64 t, .string d], .agg #[.int .i64 f2, .int .u64 q2, .int .u64 t2, .string d2], .string a, .string b] W fun x w' => x = .returned (.bool true) ∧ Below W.heap.size W w' := by
  have dd0 : decide ((300 : Int) < (d.size : Int)) = true := decide_eq_true (by omega)
  go_enter Tryd.func3, Tryd.ntmps3
  go_wp2_with fail
  have H0 := Lib.hid (TwoP.start W f q t f2 q2 t2 d d2)
  refine (awake _).mono ?_
  rintro x w1 ⟨rfl, b1⟩
  have H1 := Lib.hid (H0.out.below b1)
  clear b1 H0
  have c3 := H1.out.a.c3
  have e3 := H1.out.b.c3
  go_wp2
  go_ret
  exact ⟨rfl, H1.out.bel⟩
set_option maxRecDepth 100000 in
set_option maxHeartbeats 20000000 in
theorem early1 (f q t f2 q2 t2 : Int) (d d2 a b : ByteArray) (W : World) (h0 : ¬ 300 < d.size) (h1 : 300 < d2.size) :
    Calls Tryd.prog 3 #[.agg #[.int .i64 f, .int .u64 q, .int .u64 t, .string d], .agg #[.int .i64 f2, .int .u64 q2, .int .u64 t2, .string d2], .string a, .string b] W fun x w' => x = .returned (.bool true) ∧ Below W.heap.size W w' := by
  have dd0 : decide ((300 : Int) < (d.size : Int)) = false := decide_eq_false (by omega)
  have dd1 : decide ((300 : Int) < (d2.size : Int)) = true := decide_eq_true (by omega)
  go_enter Tryd.func3, Tryd.ntmps3
  go_wp2_with fail
  have H0 := Lib.hid (TwoP.start W f q t f2 q2 t2 d d2)
  refine (awake _).mono ?_
  rintro x w1 ⟨rfl, b1⟩
  have H1 := Lib.hid (H0.out.below b1)
  clear b1 H0
  have c3 := H1.out.a.c3
  have e3 := H1.out.b.c3
  go_wp2
  go_ret
  exact ⟨rfl, H1.out.bel⟩
set_option maxRecDepth 100000 in
set_option maxHeartbeats 20000000 in
theorem early2 (f q t f2 q2 t2 : Int) (d d2 a b : ByteArray) (W : World) (h0 : ¬ 300 < d.size) (h1 : ¬ 300 < d2.size) (h2 : 300 < a.size) :
    Calls Tryd.prog 3 #[.agg #[.int .i64 f, .int .u64 q, .int .u64 t, .string d], .agg #[.int .i64 f2, .int .u64 q2, .int .u64 t2, .string d2], .string a, .string b] W fun x w' => x = .returned (.bool true) ∧ Below W.heap.size W w' := by
  have dd0 : decide ((300 : Int) < (d.size : Int)) = false := decide_eq_false (by omega)
  have dd1 : decide ((300 : Int) < (d2.size : Int)) = false := decide_eq_false (by omega)
  have dd2 : decide ((300 : Int) < (a.size : Int)) = true := decide_eq_true (by omega)
  go_enter Tryd.func3, Tryd.ntmps3
  go_wp2_with fail
  have H0 := Lib.hid (TwoP.start W f q t f2 q2 t2 d d2)
  refine (awake _).mono ?_
  rintro x w1 ⟨rfl, b1⟩
  have H1 := Lib.hid (H0.out.below b1)
  clear b1 H0
  have c3 := H1.out.a.c3
  have e3 := H1.out.b.c3
  go_wp2
  go_ret
  exact ⟨rfl, H1.out.bel⟩
set_option maxRecDepth 100000 in
set_option maxHeartbeats 20000000 in
theorem early3 (f q t f2 q2 t2 : Int) (d d2 a b : ByteArray) (W : World) (h0 : ¬ 300 < d.size) (h1 : ¬ 300 < d2.size) (h2 : ¬ 300 < a.size) (h3 : 300 < b.size) :
    Calls Tryd.prog 3 #[.agg #[.int .i64 f, .int .u64 q, .int .u64 t, .string d], .agg #[.int .i64 f2, .int .u64 q2, .int .u64 t2, .string d2], .string a, .string b] W fun x w' => x = .returned (.bool true) ∧ Below W.heap.size W w' := by
  have dd0 : decide ((300 : Int) < (d.size : Int)) = false := decide_eq_false (by omega)
  have dd1 : decide ((300 : Int) < (d2.size : Int)) = false := decide_eq_false (by omega)
  have dd2 : decide ((300 : Int) < (a.size : Int)) = false := decide_eq_false (by omega)
  have dd3 : decide ((300 : Int) < (b.size : Int)) = true := decide_eq_true (by omega)
  go_enter Tryd.func3, Tryd.ntmps3
  go_wp2_with fail
  have H0 := Lib.hid (TwoP.start W f q t f2 q2 t2 d d2)
  refine (awake _).mono ?_
  rintro x w1 ⟨rfl, b1⟩
  have H1 := Lib.hid (H0.out.below b1)
  clear b1 H0
  have c3 := H1.out.a.c3
  have e3 := H1.out.b.c3
  go_wp2
  go_ret
  exact ⟨rfl, H1.out.bel⟩
set_option maxRecDepth 100000 in
set_option maxHeartbeats 20000000 in
theorem bad1 (f q t f2 q2 t2 : Int) (d d2 a b : ByteArray) (W : World) (h0 : ¬ 300 < d.size) (h1 : ¬ 300 < d2.size) (h2 : ¬ 300 < a.size) (h3 : ¬ 300 < b.size) (hp0 : ¬ PkOk ⟨f, q, t, d⟩) (hq0 : PkOk ⟨f2, q2, t2, d2⟩) (hq1 : 0 ≤ q2 ∧ q2 < 18446744073709551616) (hq2 : 0 ≤ t2 ∧ t2 < 18446744073709551616) :
    Calls Tryd.prog 3 #[.agg #[.int .i64 f, .int .u64 q, .int .u64 t, .string d], .agg #[.int .i64 f2, .int .u64 q2, .int .u64 t2, .string d2], .string a, .string b] W fun x w' => x = .returned (.bool true) ∧ Below W.heap.size W w' := by
  have HP := Lib.hid hp0
  clear hp0
  have HQ := Lib.hid (And.intro hq0 (And.intro hq1 hq2))
  clear hq0 hq1 hq2
  have dd0 : decide ((300 : Int) < (d.size : Int)) = false := decide_eq_false (by omega)
  have dd1 : decide ((300 : Int) < (d2.size : Int)) = false := decide_eq_false (by omega)
  have dd2 : decide ((300 : Int) < (a.size : Int)) = false := decide_eq_false (by omega)
  have dd3 : decide ((300 : Int) < (b.size : Int)) = false := decide_eq_false (by omega)
  go_enter Tryd.func3, Tryd.ntmps3
  go_wp2_with fail
  have H0 := Lib.hid (TwoP.start W f q t f2 q2 t2 d d2)
  refine (awake _).mono ?_
  rintro x w1 ⟨rfl, b1⟩
  have H1 := Lib.hid (H0.out.below b1)
  clear b1 H0
  have c3 := H1.out.a.c3
  have e3 := H1.out.b.c3
  go_wp2_with fail
  have HW : Hid (Wr (w1.alloc (.cells #[.int .i64 0, .slice none 0 0] 31 (0, 0))) w1.heap.size w1.heap.size 0 (.slice none 0 0) []) := Lib.hid (wr_new w1)
  clear c3 e3
  refine (wr_raw w1.heap.size w1.heap.size 0 _ [] a _ HW.out (by (try simp only [List.length_append, nl_length, encP_len, List.length_nil]); omega)).mono ?_
  rintro x w2 hp
  obtain ⟨v2, M2⟩ := (WrMid.start HW.out).step hp.any
  obtain ⟨rfl, -⟩ := hp
  rw [List.nil_append] at M2
  have H2 := Lib.hid (And.intro M2 (H1.out.below M2.fromB))
  clear M2 HW
  have c0 := H2.out.2.a.c0
  have c1 := H2.out.2.a.c1
  have c2 := H2.out.2.a.c2
  have c3 := H2.out.2.a.c3
  go_wp2_with fail
  refine (pk_put_bad_e w1.heap.size w1.heap.size 0 _ _ f q t d _ H2.out.1.it HP.out).mono ?_
  rintro x w3 hp
  obtain ⟨v3, M3⟩ := H2.out.1.step hp
  obtain ⟨rfl, -⟩ := hp
  have H3 := Lib.hid (And.intro M3 (H1.out.below M3.fromB))
  clear M3 H2
  clear c0 c1 c2 c3
  have e0 := H3.out.2.b.c0
  have e1 := H3.out.2.b.c1
  have e2 := H3.out.2.b.c2
  have e3 := H3.out.2.b.c3
  go_wp2_with fail
  refine (pk_put_ok_e w1.heap.size w1.heap.size (keepE 0 1) _ _ f2 q2 t2 d2 _ H3.out.1.it HQ.out.1 HQ.out.2.1 HQ.out.2.2 (by (try simp only [List.length_append, nl_length, encP_len, List.length_nil]); omega)).mono ?_
  rintro x w4 hp
  obtain ⟨v4, M4⟩ := H3.out.1.step hp
  obtain ⟨rfl, -⟩ := hp
  have H4 := Lib.hid (And.intro M4 (H1.out.below M4.fromB))
  clear M4 H3
  clear e0 e1 e2 e3
  go_wp2_with fail
  refine (wr_raw w1.heap.size w1.heap.size (keepE 0 1) _ _ b _ H4.out.1.it (by (try simp only [List.length_append, nl_length, encP_len, List.length_nil]); omega)).mono ?_
  rintro x w5 hp
  obtain ⟨v5, M5⟩ := H4.out.1.step hp.any
  obtain ⟨rfl, -⟩ := hp
  have H5 := Lib.hid (And.intro M5 (H1.out.below M5.fromB))
  clear M5 H4
  go_wp2_with fail
  refine (wr_bytes_bad w1.heap.size w1.heap.size (keepE 0 1) _ _ _ H5.out.1.it (by decide)).mono ?_
  rintro x w6 ⟨rfl, rfl⟩
  have c0 := H5.out.2.a.c0
  have c1 := H5.out.2.a.c1
  have c2 := H5.out.2.a.c2
  have c3 := H5.out.2.a.c3
  have e0 := H5.out.2.b.c0
  have e1 := H5.out.2.b.c1
  have e2 := H5.out.2.b.c2
  have e3 := H5.out.2.b.c3
  rw [show (keepE 0 1) = (1 : Int) from rfl]
  go_wp2_with fail
  refine (pk_check_bad f q t d _ HP.out).mono ?_
  rintro x w7 ⟨rfl, b7⟩
  have H7 := Lib.hid (H5.out.2.below b7)
  clear b7 H5
  clear c0 c1 c2 c3 e0 e1 e2 e3
  go_wp2
  go_ret
  exact ⟨rfl, H7.out.bel⟩
set_option maxRecDepth 100000 in
set_option maxHeartbeats 20000000 in
theorem bad2 (f q t f2 q2 t2 : Int) (d d2 a b : ByteArray) (W : World) (h0 : ¬ 300 < d.size) (h1 : ¬ 300 < d2.size) (h2 : ¬ 300 < a.size) (h3 : ¬ 300 < b.size) (hp0 : ¬ PkOk ⟨f, q, t, d⟩) (hq0 : ¬ PkOk ⟨f2, q2, t2, d2⟩) :
    Calls Tryd.prog 3 #[.agg #[.int .i64 f, .int .u64 q, .int .u64 t, .string d], .agg #[.int .i64 f2, .int .u64 q2, .int .u64 t2, .string d2], .string a, .string b] W fun x w' => x = .returned (.bool true) ∧ Below W.heap.size W w' := by
  have HP := Lib.hid hp0
  clear hp0
  have HQ := Lib.hid hq0
  clear hq0
  have dd0 : decide ((300 : Int) < (d.size : Int)) = false := decide_eq_false (by omega)
  have dd1 : decide ((300 : Int) < (d2.size : Int)) = false := decide_eq_false (by omega)
  have dd2 : decide ((300 : Int) < (a.size : Int)) = false := decide_eq_false (by omega)
  have dd3 : decide ((300 : Int) < (b.size : Int)) = false := decide_eq_false (by omega)
  go_enter Tryd.func3, Tryd.ntmps3
  go_wp2_with fail
  have H0 := Lib.hid (TwoP.start W f q t f2 q2 t2 d d2)
  refine (awake _).mono ?_
  rintro x w1 ⟨rfl, b1⟩
  have H1 := Lib.hid (H0.out.below b1)
  clear b1 H0
  have c3 := H1.out.a.c3
  have e3 := H1.out.b.c3
  go_wp2_with fail
  have HW : Hid (Wr (w1.alloc (.cells #[.int .i64 0, .slice none 0 0] 31 (0, 0))) w1.heap.size w1.heap.size 0 (.slice none 0 0) []) := Lib.hid (wr_new w1)
  clear c3 e3
  refine (wr_raw w1.heap.size w1.heap.size 0 _ [] a _ HW.out (by (try simp only [List.length_append, nl_length, encP_len, List.length_nil]); omega)).mono ?_
  rintro x w2 hp
  obtain ⟨v2, M2⟩ := (WrMid.start HW.out).step hp.any
  obtain ⟨rfl, -⟩ := hp
  rw [List.nil_append] at M2
  have H2 := Lib.hid (And.intro M2 (H1.out.below M2.fromB))
  clear M2 HW
  have c0 := H2.out.2.a.c0
  have c1 := H2.out.2.a.c1
  have c2 := H2.out.2.a.c2
  have c3 := H2.out.2.a.c3
  go_wp2_with fail
  refine (pk_put_bad_e w1.heap.size w1.heap.size 0 _ _ f q t d _ H2.out.1.it HP.out).mono ?_
  rintro x w3 hp
  obtain ⟨v3, M3⟩ := H2.out.1.step hp
  obtain ⟨rfl, -⟩ := hp
  have H3 := Lib.hid (And.intro M3 (H1.out.below M3.fromB))
  clear M3 H2
  clear c0 c1 c2 c3
  have e0 := H3.out.2.b.c0
  have e1 := H3.out.2.b.c1
  have e2 := H3.out.2.b.c2
  have e3 := H3.out.2.b.c3
  go_wp2_with fail
  refine (pk_put_bad_e w1.heap.size w1.heap.size (keepE 0 1) _ _ f2 q2 t2 d2 _ H3.out.1.it HQ.out).mono ?_
  rintro x w4 hp
  obtain ⟨v4, M4⟩ := H3.out.1.step hp
  obtain ⟨rfl, -⟩ := hp
  have H4 := Lib.hid (And.intro M4 (H1.out.below M4.fromB))
  clear M4 H3
  clear e0 e1 e2 e3
  go_wp2_with fail
  refine (wr_raw w1.heap.size w1.heap.size (keepE (keepE 0 1) 1) _ _ b _ H4.out.1.it (by (try simp only [List.length_append, nl_length, encP_len, List.length_nil]); omega)).mono ?_
  rintro x w5 hp
  obtain ⟨v5, M5⟩ := H4.out.1.step hp.any
  obtain ⟨rfl, -⟩ := hp
  have H5 := Lib.hid (And.intro M5 (H1.out.below M5.fromB))
  clear M5 H4
  go_wp2_with fail
  refine (wr_bytes_bad w1.heap.size w1.heap.size (keepE (keepE 0 1) 1) _ _ _ H5.out.1.it (by decide)).mono ?_
  rintro x w6 ⟨rfl, rfl⟩
  have c0 := H5.out.2.a.c0
  have c1 := H5.out.2.a.c1
  have c2 := H5.out.2.a.c2
  have c3 := H5.out.2.a.c3
  have e0 := H5.out.2.b.c0
  have e1 := H5.out.2.b.c1
  have e2 := H5.out.2.b.c2
  have e3 := H5.out.2.b.c3
  rw [show (keepE (keepE 0 1) 1) = (1 : Int) from rfl]
  go_wp2_with fail
  refine (pk_check_bad f q t d _ HP.out).mono ?_
  rintro x w7 ⟨rfl, b7⟩
  have H7 := Lib.hid (H5.out.2.below b7)
  clear b7 H5
  clear c0 c1 c2 c3 e0 e1 e2 e3
  go_wp2
  go_ret
  exact ⟨rfl, H7.out.bel⟩
set_option maxRecDepth 100000 in
set_option maxHeartbeats 20000000 in
theorem bad3 (f q t f2 q2 t2 : Int) (d d2 a b : ByteArray) (W : World) (h0 : ¬ 300 < d.size) (h1 : ¬ 300 < d2.size) (h2 : ¬ 300 < a.size) (h3 : ¬ 300 < b.size) (hp0 : PkOk ⟨f, q, t, d⟩) (hp1 : 0 ≤ q ∧ q < 18446744073709551616) (hp2 : 0 ≤ t ∧ t < 18446744073709551616) (hq0 : ¬ PkOk ⟨f2, q2, t2, d2⟩) :
    Calls Tryd.prog 3 #[.agg #[.int .i64 f, .int .u64 q, .int .u64 t, .string d], .agg #[.int .i64 f2, .int .u64 q2, .int .u64 t2, .string d2], .string a, .string b] W fun x w' => x = .returned (.bool true) ∧ Below W.heap.size W w' := by
  have HP := Lib.hid (And.intro hp0 (And.intro hp1 hp2))
  clear hp0 hp1 hp2
  have HQ := Lib.hid hq0
  clear hq0
  have dd0 : decide ((300 : Int) < (d.size : Int)) = false := decide_eq_false (by omega)
  have dd1 : decide ((300 : Int) < (d2.size : Int)) = false := decide_eq_false (by omega)
  have dd2 : decide ((300 : Int) < (a.size : Int)) = false := decide_eq_false (by omega)
  have dd3 : decide ((300 : Int) < (b.size : Int)) = false := decide_eq_false (by omega)
  go_enter Tryd.func3, Tryd.ntmps3
  go_wp2_with fail
  have H0 := Lib.hid (TwoP.start W f q t f2 q2 t2 d d2)
  refine (awake _).mono ?_
  rintro x w1 ⟨rfl, b1⟩
  have H1 := Lib.hid (H0.out.below b1)
  clear b1 H0
  have c3 := H1.out.a.c3
  have e3 := H1.out.b.c3
  go_wp2_with fail
  have HW : Hid (Wr (w1.alloc (.cells #[.int .i64 0, .slice none 0 0] 31 (0, 0))) w1.heap.size w1.heap.size 0 (.slice none 0 0) []) := Lib.hid (wr_new w1)
  clear c3 e3
  refine (wr_raw w1.heap.size w1.heap.size 0 _ [] a _ HW.out (by (try simp only [List.length_append, nl_length, encP_len, List.length_nil]); omega)).mono ?_
  rintro x w2 hp
  obtain ⟨v2, M2⟩ := (WrMid.start HW.out).step hp.any
  obtain ⟨rfl, -⟩ := hp
  rw [List.nil_append] at M2
  have H2 := Lib.hid (And.intro M2 (H1.out.below M2.fromB))
  clear M2 HW
  have c0 := H2.out.2.a.c0
  have c1 := H2.out.2.a.c1
  have c2 := H2.out.2.a.c2
  have c3 := H2.out.2.a.c3
  go_wp2_with fail
  refine (pk_put_ok_e w1.heap.size w1.heap.size 0 _ _ f q t d _ H2.out.1.it HP.out.1 HP.out.2.1 HP.out.2.2 (by (try simp only [List.length_append, nl_length, encP_len, List.length_nil]); omega)).mono ?_
  rintro x w3 hp
  obtain ⟨v3, M3⟩ := H2.out.1.step hp
  obtain ⟨rfl, -⟩ := hp
  have H3 := Lib.hid (And.intro M3 (H1.out.below M3.fromB))
  clear M3 H2
  clear c0 c1 c2 c3
  have e0 := H3.out.2.b.c0
  have e1 := H3.out.2.b.c1
  have e2 := H3.out.2.b.c2
  have e3 := H3.out.2.b.c3
  go_wp2_with fail
  refine (pk_put_bad_e w1.heap.size w1.heap.size 0 _ _ f2 q2 t2 d2 _ H3.out.1.it HQ.out).mono ?_
  rintro x w4 hp
  obtain ⟨v4, M4⟩ := H3.out.1.step hp
  obtain ⟨rfl, -⟩ := hp
  have H4 := Lib.hid (And.intro M4 (H1.out.below M4.fromB))
  clear M4 H3
  clear e0 e1 e2 e3
  go_wp2_with fail
  refine (wr_raw w1.heap.size w1.heap.size (keepE 0 1) _ _ b _ H4.out.1.it (by (try simp only [List.length_append, nl_length, encP_len, List.length_nil]); omega)).mono ?_
  rintro x w5 hp
  obtain ⟨v5, M5⟩ := H4.out.1.step hp.any
  obtain ⟨rfl, -⟩ := hp
  have H5 := Lib.hid (And.intro M5 (H1.out.below M5.fromB))
  clear M5 H4
  go_wp2_with fail
  refine (wr_bytes_bad w1.heap.size w1.heap.size (keepE 0 1) _ _ _ H5.out.1.it (by decide)).mono ?_
  rintro x w6 ⟨rfl, rfl⟩
  have c0 := H5.out.2.a.c0
  have c1 := H5.out.2.a.c1
  have c2 := H5.out.2.a.c2
  have c3 := H5.out.2.a.c3
  have e0 := H5.out.2.b.c0
  have e1 := H5.out.2.b.c1
  have e2 := H5.out.2.b.c2
  have e3 := H5.out.2.b.c3
  rw [show (keepE 0 1) = (1 : Int) from rfl]
  go_wp2_with fail
  refine (pk_check_ok f q t d _ HP.out.1).mono ?_
  rintro x w7 ⟨rfl, b7⟩
  have H7 := Lib.hid (H5.out.2.below b7)
  clear b7 H5
  clear c0 c1 c2 c3 e0 e1 e2 e3
  have c0 := H7.out.a.c0
  have c1 := H7.out.a.c1
  have c2 := H7.out.a.c2
  have c3 := H7.out.a.c3
  have e0 := H7.out.b.c0
  have e1 := H7.out.b.c1
  have e2 := H7.out.b.c2
  have e3 := H7.out.b.c3
  go_wp2_with fail
  refine (pk_check_bad f2 q2 t2 d2 _ HQ.out).mono ?_
  rintro x w8 ⟨rfl, b8⟩
  have H8 := Lib.hid (H7.out.below b8)
  clear b8 H7
  clear c0 c1 c2 c3 e0 e1 e2 e3
  go_wp2
  go_ret
  exact ⟨rfl, H8.out.bel⟩
end Go.Proofs.YtclepgpaifaneaaDoor.packetBack
