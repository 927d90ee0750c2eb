/- carracklaw10.PacketGets walked. No condition. -/
import Derived.WalkSpells
import Derived.Test.YtclepgpaifaneaaRefGet
import Derived.Test.YtclepgpaifaneaaPkM
namespace Go.Proofs.Ytclepgpaifaneaa.packetGets
open Go.RowKit
set_option linter.unusedVariables false
theorem get_stuck (e : Int) (s : ByteArray) (he : e ≠ 0) : getOf e s = (PkV.zero, e, s) := by
  have hA : gA e s = (⟨#[]⟩, e, s) := WireM.raw_stuck e s _ he
  have hB : gB e s = (⟨#[]⟩, e, s) := by unfold gB; rw [hA]; exact WireM.raw_stuck e s _ he
  have hC : gC e s = (⟨#[]⟩, e, s) := by unfold gC; rw [hB]; exact WireM.raw_stuck e s _ he
  have hD : gD e s = (⟨#[]⟩, e, s) := by unfold gD; rw [hC]; exact WireM.raw_stuck e s _ he
  have hX : gX e s = (⟨#[]⟩, e, s) := by unfold gX; rw [hD]; exact WireM.raw_stuck e s _ he
  unfold getOf
  rw [hX, if_neg he]
set_option maxRecDepth 100000 in
set_option maxHeartbeats 2000000 in
theorem early (s more : ByteArray) (fail : Int) (W : World) (h : 300 < s.size ∨ 300 < more.size) :
    Calls Try.prog 4 #[.string s, .string more, .int .i64 fail] W fun x w' => x = .returned (.bool true) ∧ Below W.heap.size W w' := by
  by_cases h1 : 300 < s.size
  · have d1 : decide ((300 : Int) < (s.size : Int)) = true := decide_eq_true (by omega)
    clear h
    go_enter Try.func4, Try.ntmps4
    go_wp2_with fail
    refine (awake _).mono ?_
    rintro x w1 ⟨rfl, b1⟩
    go_wp2
    go_ret
    exact ⟨rfl, b1⟩
  · have h2 : 300 < more.size := h.resolve_left h1
    have d1 : decide ((300 : Int) < (s.size : Int)) = false := decide_eq_false (by omega)
    have d2 : decide ((300 : Int) < (more.size : Int)) = true := decide_eq_true (by omega)
    clear h
    go_enter Try.func4, Try.ntmps4
    go_wp2_with fail
    refine (awake _).mono ?_
    rintro x w1 ⟨rfl, b1⟩
    go_wp2
    go_ret
    exact ⟨rfl, b1⟩
set_option maxRecDepth 100000 in
set_option maxHeartbeats 4000000 in
theorem main_fail (s more : ByteArray) (fail : Int) (W : World) (h1 : ¬ 300 < s.size) (h2 : ¬ 300 < more.size) (hf : fail ≠ 0) :
    Calls Try.prog 4 #[.string s, .string more, .int .i64 fail] W fun x w' => x = .returned (.bool true) ∧ Below W.heap.size W w' := by
  have hl : ¬ 9223372036854775807 < s.size + more.size := by omega
  have HSZ : Hid ((s ++ more).size ≤ maxLen) := Lib.hid (by unfold maxLen; rw [ByteArray.size_append]; omega)
  have HG := Lib.hid (get_stuck fail (s ++ more) hf)
  have hf1 : (fail != 0) = true := by simpa using hf
  clear hf
  go_enter Try.func4, Try.ntmps4
  go_wp2_with fail
  refine (awake _).mono ?_
  rintro x w1 ⟨rfl, b1⟩
  have H1 := Lib.hid b1
  clear b1
  go_wp2_with fail
  refine (rd_new (s ++ more) _).mono ?_
  rintro x w2 ⟨rfl, R2, b2⟩
  have H2 := Lib.hid (And.intro R2 (And.intro (H1.out.trans (b2.mono H1.out.size)) H1.out.size))
  clear R2 b2 H1
  generalize w1.heap.size = B at *
  go_wp2_with fail
  refine (rd_fail B 0 fail (s ++ more) _ H2.out.1).mono ?_
  rintro x w3 ⟨rfl, R3, K3⟩
  rw [if_pos rfl] at R3
  have H3 := Lib.hid (And.intro R3 (And.intro (H2.out.2.1.trans (K3.below H2.out.2.1.size (fun k _ e => by subst e; exact H2.out.2.2))) H2.out.2.2))
  clear R3 K3 H2
  go_wp2_with fail
  refine (pk_get B fail (s ++ more) _ H3.out.1 HSZ.out).mono ?_
  intro x w4 hp
  unfold GetPost at hp
  rw [HG.out] at hp
  obtain ⟨rfl, R4, K4⟩ := hp
  have H4 := Lib.hid (And.intro R4 (And.intro (H3.out.2.1.trans (K4.below H3.out.2.1.size (fun k _ e => by subst e; exact H3.out.2.2))) H3.out.2.2))
  clear R4 K4 H3
  unfold PkV.val PkV.zero
  go_wp2_with fail
  have H5 := Lib.hid (And.intro (H4.out.1.later (Kq.Keeps.alloc (fun _ => False) w4 (Obj.cells #[Value.int IntKind.i64 0, Value.int IntKind.u64 0, Value.int IntKind.u64 0, Value.string ⟨#[]⟩] 39)) id) (H4.out.2.1.trans ((Kq.below_alloc w4 (Obj.cells #[Value.int IntKind.i64 0, Value.int IntKind.u64 0, Value.int IntKind.u64 0, Value.string ⟨#[]⟩] 39)).mono H4.out.2.1.size)))
  refine (mem_err B fail _ H5.out.1.c0).mono ?_
  rintro x w5 ⟨rfl, rfl⟩
  go_wp2
  go_ret
  exact ⟨rfl, H5.out.2⟩
set_option maxRecDepth 100000 in
set_option maxHeartbeats 4000000 in
theorem main_err (s more : ByteArray) (W : World) (h1 : ¬ 300 < s.size) (h2 : ¬ 300 < more.size) (ee : Int) (hee : ee ≠ 0) (r : ByteArray) (HG : Hid (getOf 0 (s ++ more) = (PkV.zero, ee, r))) (HR : Hid (∀ w : World, Calls Try.prog 18 #[.string (s ++ more)] w (RGet PkV.zero 0 ee w))) :
    Calls Try.prog 4 #[.string s, .string more, .int .i64 0] W fun x w' => x = .returned (.bool true) ∧ Below W.heap.size W w' := by
  have hl : ¬ 9223372036854775807 < s.size + more.size := by omega
  have HSZ : Hid ((s ++ more).size ≤ maxLen) := Lib.hid (by unfold maxLen; rw [ByteArray.size_append]; omega)
  have he1 : (ee != 0) = true := by simpa using hee
  clear hee
  go_enter Try.func4, Try.ntmps4
  go_wp2_with fail
  refine (awake _).mono ?_
  rintro x w1 ⟨rfl, b1⟩
  have H1 := Lib.hid b1
  clear b1
  go_wp2_with fail
  refine (rd_new (s ++ more) _).mono ?_
  rintro x w2 ⟨rfl, R2, b2⟩
  have H2 := Lib.hid (And.intro R2 (And.intro (H1.out.trans (b2.mono H1.out.size)) H1.out.size))
  clear R2 b2 H1
  generalize w1.heap.size = B at *
  go_wp2_with fail
  refine (rd_fail B 0 0 (s ++ more) _ H2.out.1).mono ?_
  rintro x w3 ⟨rfl, R3, K3⟩
  rw [if_pos rfl] at R3
  have H3 := Lib.hid (And.intro R3 (And.intro (H2.out.2.1.trans (K3.below H2.out.2.1.size (fun k _ e => by subst e; exact H2.out.2.2))) H2.out.2.2))
  clear R3 K3 H2
  go_wp2_with fail
  refine (pk_get B 0 (s ++ more) _ H3.out.1 HSZ.out).mono ?_
  intro x w4 hp
  unfold GetPost at hp
  rw [HG.out] at hp
  obtain ⟨rfl, R4, K4⟩ := hp
  have H4 := Lib.hid (And.intro R4 (And.intro (H3.out.2.1.trans (K4.below H3.out.2.1.size (fun k _ e => by subst e; exact H3.out.2.2))) H3.out.2.2))
  clear R4 K4 H3
  unfold PkV.val PkV.zero
  go_wp2_with fail
  have H5 := Lib.hid (And.intro (H4.out.1.later (Kq.Keeps.alloc (fun _ => False) w4 (Obj.cells #[Value.int IntKind.i64 0, Value.int IntKind.u64 0, Value.int IntKind.u64 0, Value.string ⟨#[]⟩] 39)) id) (And.intro (H4.out.2.1.trans ((Kq.below_alloc w4 (Obj.cells #[Value.int IntKind.i64 0, Value.int IntKind.u64 0, Value.int IntKind.u64 0, Value.string ⟨#[]⟩] 39)).mono H4.out.2.1.size)) (show PB (w4.alloc (Obj.cells #[Value.int IntKind.i64 0, Value.int IntKind.u64 0, Value.int IntKind.u64 0, Value.string ⟨#[]⟩] 39)) w4.heap.size 0 0 0 ⟨#[]⟩ from ⟨Kq.blk_new _ _ _ _⟩)))
  clear H4
  refine (HR.out _).mono ?_
  unfold RGet PkV.val PkV.zero
  rintro x w6 ⟨rfl, b6⟩
  have H6 := Lib.hid (And.intro (H5.out.1.later (Kq.Keeps.of_below (S := fun _ => False) b6 (fun k h1 h2 => absurd h1 (Nat.not_le.2 h2))) id) (And.intro (H5.out.2.1.trans (b6.mono H5.out.2.1.size)) (H5.out.2.2.below b6)))
  clear b6 H5
  have c0 := H6.out.2.2.c0
  have c1 := H6.out.2.2.c1
  have c2 := H6.out.2.2.c2
  have c3 := H6.out.2.2.c3
  generalize w4.heap.size = PP at *
  have hPP := Kq.blk_lt H6.out.2.2.blk
  have hne : ¬ PP = w6.heap.size := Nat.ne_of_lt hPP
  have hne2 : ¬ w6.heap.size = PP := fun h => hne h.symm
  have H7 := Lib.hid (And.intro (H6.out.1.later (Kq.Keeps.alloc (fun _ => False) w6 (Obj.cells #[Value.int IntKind.i64 0, Value.int IntKind.u64 0, Value.int IntKind.u64 0, Value.string ⟨#[]⟩] 39)) id) (H6.out.2.1.trans ((Kq.below_alloc w6 (Obj.cells #[Value.int IntKind.i64 0, Value.int IntKind.u64 0, Value.int IntKind.u64 0, Value.string ⟨#[]⟩] 39)).mono H6.out.2.1.size)))
  go_wp2_with fail
  refine (mem_err B ee _ H7.out.1.c0).mono ?_
  rintro x w8 ⟨rfl, rfl⟩
  clear c0 c1 c2 c3 H6
  go_wp2
  go_ret
  exact ⟨rfl, H7.out.2⟩
set_option maxRecDepth 100000 in
set_option maxHeartbeats 4000000 in
theorem main_ok (s more : ByteArray) (W : World) (h1 : ¬ 300 < s.size) (h2 : ¬ 300 < more.size) (f q t : Int) (d : ByteArray) (m : Nat) (r : ByteArray) (hm : r.size = s.size + more.size - m) (hm2 : m ≤ s.size + more.size) (HG : Hid (getOf 0 (s ++ more) = (⟨f, q, t, d⟩, 0, r))) (HR : Hid (∀ w : World, Calls Try.prog 18 #[.string (s ++ more)] w (RGet ⟨f, q, t, d⟩ (m : Int) 0 w))) :
    Calls Try.prog 4 #[.string s, .string more, .int .i64 0] W fun x w' => x = .returned (.bool true) ∧ Below W.heap.size W w' := by
  have hl : ¬ 9223372036854775807 < s.size + more.size := by omega
  have HSZ : Hid ((s ++ more).size ≤ maxLen) := Lib.hid (by unfold maxLen; rw [ByteArray.size_append]; omega)
  have HV : Hid (((r.size : Int) == (s.size : Int) + (more.size : Int) - (m : Int)) = true) := Lib.hid (by simp; omega)
  clear hm
  go_enter Try.func4, Try.ntmps4
  go_wp2_with fail
  refine (awake _).mono ?_
  rintro x w1 ⟨rfl, b1⟩
  have H1 := Lib.hid b1
  clear b1
  go_wp2_with fail
  refine (rd_new (s ++ more) _).mono ?_
  rintro x w2 ⟨rfl, R2, b2⟩
  have H2 := Lib.hid (And.intro R2 (And.intro (H1.out.trans (b2.mono H1.out.size)) H1.out.size))
  clear R2 b2 H1
  generalize w1.heap.size = B at *
  go_wp2_with fail
  refine (rd_fail B 0 0 (s ++ more) _ H2.out.1).mono ?_
  rintro x w3 ⟨rfl, R3, K3⟩
  rw [if_pos rfl] at R3
  have H3 := Lib.hid (And.intro R3 (And.intro (H2.out.2.1.trans (K3.below H2.out.2.1.size (fun k _ e => by subst e; exact H2.out.2.2))) H2.out.2.2))
  clear R3 K3 H2
  go_wp2_with fail
  refine (pk_get B 0 (s ++ more) _ H3.out.1 HSZ.out).mono ?_
  intro x w4 hp
  unfold GetPost at hp
  rw [HG.out] at hp
  obtain ⟨rfl, R4, K4⟩ := hp
  have H4 := Lib.hid (And.intro R4 (And.intro (H3.out.2.1.trans (K4.below H3.out.2.1.size (fun k _ e => by subst e; exact H3.out.2.2))) H3.out.2.2))
  clear R4 K4 H3
  unfold PkV.val
  go_wp2_with fail
  have H5 := Lib.hid (And.intro (H4.out.1.later (Kq.Keeps.alloc (fun _ => False) w4 (Obj.cells #[Value.int IntKind.i64 f, Value.int IntKind.u64 q, Value.int IntKind.u64 t, Value.string d] 39)) id) (And.intro (H4.out.2.1.trans ((Kq.below_alloc w4 (Obj.cells #[Value.int IntKind.i64 f, Value.int IntKind.u64 q, Value.int IntKind.u64 t, Value.string d] 39)).mono H4.out.2.1.size)) (show PB (w4.alloc (Obj.cells #[Value.int IntKind.i64 f, Value.int IntKind.u64 q, Value.int IntKind.u64 t, Value.string d] 39)) w4.heap.size f q t d from ⟨Kq.blk_new _ _ _ _⟩)))
  clear H4
  refine (HR.out _).mono ?_
  unfold RGet PkV.val
  rintro x w6 ⟨rfl, b6⟩
  have H6 := Lib.hid (And.intro (H5.out.1.later (Kq.Keeps.of_below (S := fun _ => False) b6 (fun k h1 h2 => absurd h1 (Nat.not_le.2 h2))) id) (And.intro (H5.out.2.1.trans (b6.mono H5.out.2.1.size)) (H5.out.2.2.below b6)))
  clear b6 H5
  have c0 := H6.out.2.2.c0
  have c1 := H6.out.2.2.c1
  have c2 := H6.out.2.2.c2
  have c3 := H6.out.2.2.c3
  generalize w4.heap.size = PP at *
  have hPP := Kq.blk_lt H6.out.2.2.blk
  have hne : ¬ PP = w6.heap.size := Nat.ne_of_lt hPP
  have hne2 : ¬ w6.heap.size = PP := fun h => hne h.symm
  have H7 := Lib.hid (And.intro (H6.out.1.later (Kq.Keeps.alloc (fun _ => False) w6 (Obj.cells #[Value.int IntKind.i64 f, Value.int IntKind.u64 q, Value.int IntKind.u64 t, Value.string d] 39)) id) (H6.out.2.1.trans ((Kq.below_alloc w6 (Obj.cells #[Value.int IntKind.i64 f, Value.int IntKind.u64 q, Value.int IntKind.u64 t, Value.string d] 39)).mono H6.out.2.1.size)))
  go_wp2_with fail
  refine (mem_err B 0 _ H7.out.1.c0).mono ?_
  rintro x w8 ⟨rfl, rfl⟩
  clear c0 c1 c2 c3 H6
  go_wp2_with fail
  refine (rd_left B 0 r _ H7.out.1).mono ?_
  rw [show leftOf 0 r = r.size from if_pos rfl]
  rintro x w9 ⟨rfl, rfl⟩
  have hv := HV.out
  generalize r.size = v at *
  go_wp2
  go_ret
  exact ⟨rfl, H7.out.2⟩
theorem long_pos {p : PkV} {n : Nat} {w w' : World} {x : Ending} (h : LongPost p n w x w') (hok : PkOk p) : RGet p ((19 + n : Nat) : Int) 0 w x w' := by
  unfold LongPost at h
  rwa [if_pos hok] at h
theorem long_neg {p : PkV} {n : Nat} {w w' : World} {x : Ending} (h : LongPost p n w x w') (hok : ¬ PkOk p) : RGet PkV.zero 0 5 w x w' := by
  unfold LongPost at h
  rwa [if_neg hok] at h
theorem packetGets_walk (s more : ByteArray) (fail : Int) (hs : s.size ≤ maxLen) (hm : more.size ≤ maxLen) (wf : (Lit.int .i64 fail).wf = true) (W : World) :
    Calls Try.prog 4 #[.string s, .string more, .int .i64 fail] W fun x w' => x = .returned (.bool true) ∧ Below W.heap.size W w' := by
  by_cases h1 : 300 < s.size
  · exact early s more fail W (Or.inl h1)
  by_cases h2 : 300 < more.size
  · exact early s more fail W (Or.inr h2)
  by_cases hf : fail = 0
  · subst hf
    have hz : (s ++ more).size = s.size + more.size := ByteArray.size_append
    have hk : (nl (s ++ more)).length = (s ++ more).size := nl_length _
    have hx17 : nl ((s ++ more).extract 17 19) = ((nl (s ++ more)).drop 17).take 2 := nl_extract _ _ _
    have hn : WireM.val (((nl (s ++ more)).drop 17).take 2) < 65536 := by
      refine Nat.lt_of_lt_of_le (WireM.val_lt _ (fun b hb => nl_lt (s ++ more) b (List.mem_of_mem_drop (List.mem_of_mem_take hb)))) ?_
      have h8 : (((nl (s ++ more)).drop 17).take 2).length ≤ 2 := by rw [List.length_take]; omega
      exact Nat.le_trans (Nat.pow_le_pow_right (by decide) h8) (by decide)
    by_cases h19 : (s ++ more).size < 19
    · have h6 := get_six (s ++ more) (Or.inl (by omega))
      refine main_err s more W h1 h2 6 (by decide) (gX 0 (s ++ more)).2.2 (Lib.hid ?_) (Lib.hid (fun w => ref_get_short _ w h19))
      unfold getOf
      rw [h6, if_neg (by decide)]
    · by_cases hl : (s ++ more).size < 19 + WireM.val (((nl (s ++ more)).drop 17).take 2)
      · have h6 := get_six (s ++ more) (Or.inr (by omega))
        refine main_err s more W h1 h2 6 (by decide) (gX 0 (s ++ more)).2.2 (Lib.hid ?_) (Lib.hid (fun w => ref_get_short2 _ w h19 (by omega) _ hn (by rw [hx17]) hl))
        unfold getOf
        rw [h6, if_neg (by decide)]
      · obtain ⟨g1, g2, g3, g4⟩ := get_all (s ++ more) (by omega)
        have hd : (gX 0 (s ++ more)).1 = (s ++ more).extract 19 (19 + WireM.val (((nl (s ++ more)).drop 17).take 2)) := by
          apply nl_inj
          rw [g3, nl_extract, Nat.add_sub_cancel_left]
        have hsz := between_size g4 (Nat.le_refl _)
        have hlong := fun w => ref_get_long (s ++ more) w h19 (by omega) _ hn (by rw [hx17]) hl _ rfl
        have hP : gP 0 (s ++ more) = ⟨((((s ++ more)[0]'(by omega)).toNat : Nat) : Int), ((WireM.val (nl ((s ++ more).extract 1 9)) : Nat) : Int), ((WireM.val (nl ((s ++ more).extract 9 17)) : Nat) : Int), (s ++ more).extract 19 (19 + WireM.val (((nl (s ++ more)).drop 17).take 2))⟩ := by
          rw [g2, hd, nl_head (s ++ more) (by omega), nl_extract, nl_extract]
        rw [← hP] at hlong
        have hget : getOf 0 (s ++ more) = if PkOk (gP 0 (s ++ more)) then (gP 0 (s ++ more), 0, (gX 0 (s ++ more)).2.2) else (PkV.zero, 5, (gX 0 (s ++ more)).2.2) := by
          unfold getOf
          rw [g1, if_pos rfl]
        have hr : (gX 0 (s ++ more)).2.2.size = s.size + more.size - (19 + WireM.val (((nl (s ++ more)).drop 17).take 2)) := by rw [hsz, hk, hz]
        have hle : 19 + WireM.val (((nl (s ++ more)).drop 17).take 2) ≤ s.size + more.size := by omega
        clear g1 g2 g3 g4 hd hsz hP hx17 hn
        generalize WireM.val (((nl (s ++ more)).drop 17).take 2) = n at *
        generalize (gX 0 (s ++ more)).2.2 = r at *
        generalize gP 0 (s ++ more) = p at *
        obtain ⟨f, q, t, d⟩ := p
        by_cases hok : PkOk ⟨f, q, t, d⟩
        · rw [if_pos hok] at hget
          exact main_ok s more W h1 h2 f q t d (19 + n) r hr hle (Lib.hid hget) (Lib.hid (fun w => (hlong w).mono fun x w' h => long_pos h hok))
        · rw [if_neg hok] at hget
          exact main_err s more W h1 h2 5 (by decide) r (Lib.hid hget) (Lib.hid (fun w => (hlong w).mono fun x w' h => long_neg h hok))
  · exact main_fail s more fail W h1 h2 hf
end Go.Proofs.Ytclepgpaifaneaa.packetGets
