/- Merged: CnAwM, CnDo0, CnDo1, CnDo2, CnDo5, CnLw, CnAwake, CnNk. The chains' example: mathematics. No condition. carracklaw13's do: Send. Condition: few calls, short texts; the constants lie where they lie. carracklaw13's do: Update. Condition: few calls, short texts; the constants lie where they lie. carracklaw13's do: Recv. Condition: few calls, short texts; the constants lie where they lie. carracklaw13's do: Commit, nothing. Condition: few calls, short texts; the constants lie where they lie. Two chains of a law's own beside its own blocks; any call of them. Condition: few calls, short texts; the constants lie where they lie. carracklaw13's awake. Condition: the constants lie where they lie. The notes of chains are right. No condition. -/
import Derived.Test.YtbjchfcoacmaaaaGreatDoorCnDo4Q
import Derived.WalkSpells
import Derived.Outline
import Derived.ProofKit
import Derived.Deep.QuietTactic
import Derived.Deep.RegionHeld
import Derived.BigQuiet
import Derived.Test.YtbjchfcoacmaaaaGreatDoorWidCQ
namespace Go.Proofs.YtbjchfcoacmaaaaGreatDoor
open Go.RowKit Go.Cl
set_option linter.unusedVariables false
namespace AwC
def x : ByteArray := ⟨#[120]⟩
def p : PkV := ⟨0, 1, 20, x⟩
noncomputable def com : ByteArray := comD p
def k : ByteArray := keyT 99 1
noncomputable def l1 : List PairV := [(k, com)]
noncomputable def C1 : ChV := ⟨0, ⟨l1, 5, [[]]⟩, [], fun _ => none, 0, 2, 5, [[]], [ntOf 1 p]⟩
noncomputable def C2 : ChV := ⟨0, ⟨l1, 5, [[], l1]⟩, [], fun _ => none, 0, 2, 5, [[], [ntOf 1 p]], []⟩
noncomputable def rt : ByteArray := rootP l1
noncomputable def B1 : ChV := ⟨1, newV 9, [6], updT (fun _ => none) 6 rt, 1, 1, 9, [[]], []⟩
noncomputable def pr : ByteArray := (pfBytes (pfHas l1 k)).1
theorem com_size : com.size = 32 := dgT_size _
theorem k_size : k.size = 9 := keyT_size _ _
theorem bad_of {k v : ByteArray} (h1 : 1 ≤ k.size) (h2 : k.size ≤ 16) (h3 : v.size ≤ 64) : badKV k v = false := by
  unfold badKV
  rw [decide_eq_false (by omega), decide_eq_false (by omega), decide_eq_false (by omega)]; rfl
theorem send0 : firstE (sendE (newCh 0 5 1) x 20) = 0 := by decide
theorem send1 : sendC (newCh 0 5 1) x 20 = C1 := by
  unfold sendC
  rw [if_pos send0]
  have h : setV (newCh 0 5 1).st (keyT 99 (newCh 0 5 1).next) (comD ((newCh 0 5 1).pk 20 x)) = (⟨l1, 5, [[]]⟩, 0) := by
    show setV (newV 5) k com = _
    unfold setV
    rw [if_neg (by rw [bad_of (by rw [k_size]; decide) (by rw [k_size]; decide) (by rw [com_size]; decide)]; decide), if_neg (fun h => by have := h.2; simp [newV] at this)]
    rfl
  unfold ChV.set
  rw [h]
  rfl
theorem sendp : sendP (newCh 0 5 1) x 20 = p := by
  unfold sendP
  rw [if_pos send0]; rfl
theorem com0 : comV C1.st = (⟨l1, 5, [[], l1]⟩, 6, 0) := by
  unfold comV
  rw [if_neg (by show ¬ ((5 + ([[]] : List (List PairV)).length - 1) : Nat) = _; decide), if_neg (by show ¬ 4096 ≤ 1; decide)]
  rfl
theorem com1 : comC C1 = C2 := by
  unfold comC
  rw [com0]
  rfl
theorem at0 : atV C2.st 6 = (l1, 0) := by
  unfold atV
  rw [if_pos (by constructor <;> decide)]
  rfl
theorem root0 : rootV C2.st 6 = (rt, 0) := by
  unfold rootV
  rw [at0]
  rfl
theorem upd0 : setF 6 rt (newCh 1 9 1).hs (newCh 1 9 1).f = ([6], updT (fun _ => none) 6 rt, 0) := by
  unfold setF
  rw [if_pos (show rt.size = 32 from dgT_size _)]
  rfl
theorem upd1 : updC (newCh 1 9 1) 6 rt = B1 := by
  unfold updC
  rw [upd0]
  rfl
theorem small1 : smallP l1 := ⟨by simp [l1], by unfold l1 SortL; simp, fun q hq => by
  unfold l1 at hq
  rw [List.mem_singleton.1 hq]
  exact ⟨by show 1 ≤ k.size; rw [k_size]; decide, by show k.size ≤ 16; rw [k_size]; decide, by show com.size ≤ 64; rw [com_size]; decide⟩⟩
theorem in1 : isIn l1 k = true := (isIn_iff small1.2.1 k).2 ⟨0, by simp [l1], rfl⟩
theorem plc1 : plc l1 k = 0 := plc_none _ _ (fun q hq => by
  unfold l1 at hq
  rw [List.mem_singleton.1 hq]; exact lt_irr _)
theorem pr0 : (proveV C2.st k 6).1 = pr := by
  unfold proveV
  rw [at0]
  show (if (0 : Int) = 0 then proveL l1 k else _).1 = _
  rw [if_pos rfl]
  unfold proveL
  rw [if_pos in1]; rfl
theorem has1 : hasP rt k com (pfParse pr).1 = true := by
  have hm := pfHas_mayG (key := k) small1 (by simp [l1]) in1
  unfold pr
  rw [(parse_bytesG hm).1, (parse_bytesG hm).2]
  show hasP (rootL l1) k com (pfHas l1 k) = true
  rw [has_madeG (by simp [l1]) in1 com, plc1]
  exact decide_eq_true (by unfold mkLf l1; rfl)
theorem recv0 : firstE (recvE B1 0 1 20 x pr 6) = 0 := by
  have h5 : provesE B1 6 (fun root => hasP root (keyT 99 1) (comD ⟨0, ((1 : Nat) : Int), ((20 : Nat) : Int), x⟩) (pfParse pr).1) = 0 := by
    unfold provesE
    have hf : B1.f ((6 : Nat) : Int) = some rt := rfl
    rw [hf]
    show (if true = true then (if hasP rt k com (pfParse pr).1 = true then (0 : Int) else 9) else 11) = 0
    rw [has1]; rfl
  unfold recvE
  rw [h5]
  rfl
noncomputable def B2 : ChV := recvC B1 0 1 20 x pr 6
theorem st2 : B2.st = (setV (setV (newV 9) (keyT 114 1) ⟨#[1]⟩).1 (keyT 97 1) (ansD p)).1 ∧ B2.id = 1 ∧ B2.hs = [6] := by
  unfold B2 recvC
  rw [if_pos recv0]
  exact ⟨rfl, rfl, rfl⟩
theorem recv1 : firstE (recvE B2 0 1 20 x pr 6) = 4 := by
  obtain ⟨e1, e2, e3⟩ := st2
  have hb1 : badKV (keyT 114 1) ⟨#[1]⟩ = false := bad_of (by rw [keyT_size]; decide) (by rw [keyT_size]; decide) (by decide)
  have hb2 : badKV (keyT 97 1) (ansD p) = false := bad_of (by rw [keyT_size]; decide) (by rw [keyT_size]; decide) (by rw [show (ansD p).size = 32 from dgT_size _]; decide)
  have f1 : (setV (newV 9) (keyT 114 1) ⟨#[1]⟩).1 = ⟨[(keyT 114 1, ⟨#[1]⟩)], 9, [[]]⟩ := by
    unfold setV
    rw [if_neg (by rw [hb1]; decide), if_neg (fun h => by have := h.2; simp [newV] at this)]
    rfl
  have f2 : B2.st = ⟨insP [(keyT 114 1, ⟨#[1]⟩)] (keyT 97 1) (ansD p), 9, [[]]⟩ := by
    rw [e1, f1]
    unfold setV
    rw [if_neg (by rw [hb2]; decide), if_neg (fun h => by have := h.2; simp at this)]
  have hh : B2.has (keyT 114 1) = true := by
    unfold ChV.has
    rw [f2, lk_ins]
    by_cases e : keyT 114 1 = keyT 97 1
    · rw [if_pos e]; rfl
    · rw [if_neg e]; unfold lk; rw [if_pos rfl]; rfl
  have hht : B2.st.height = 9 := by rw [f2]; rfl
  have hg : goesE B2 = 0 := by unfold goesE; rw [hht]; rfl
  have hf : fromE ⟨0, ((1 : Nat) : Int), ((20 : Nat) : Int), x⟩ (1 - (B2.id : Int)) = 0 := by rw [e2]; decide
  have hr : recv1B B2 ⟨0, ((1 : Nat) : Int), ((20 : Nat) : Int), x⟩ = true := by unfold recv1B; rw [hht]; decide
  unfold recvE
  rw [hg, hf, hr, hh]
  rfl
end AwC
end Go.Proofs.YtbjchfcoacmaaaaGreatDoor
namespace Go.Proofs.YtbjchfcoacmaaaaGreatDoor
open Go.RowKit
set_option linter.unusedVariables false
set_option maxRecDepth 100000 in
set_option maxHeartbeats 1000000 in
theorem do_k0t {w : World} {O : Nat → Prop} {X : Nat} {c : Nat → ChV} {m : Nat} (id : Int) (h q t : Nat) (d pd : ByteArray) (f : Int) (hT : TwP w O X c) (hk : TwK m c) (hm : m ≤ 400) (ha : CaOk ⟨0, id, h, d, f, q, t, pd, true⟩) (hL : LaidOk w) (hO : ¬ O 1 ∧ ¬ O 0) : Calls Tryz.prog 17 #[.pointer (some ⟨X, 0, none⟩), .agg #[.int .i64 0, .int .i64 id, .int .u64 (h : Int), .string d, .int .i64 f, .int .u64 (q : Int), .int .u64 (t : Int), .string pd, .bool true]] w (StepT w O X (.tuple #[(doP c ⟨0, id, h, d, f, q, t, pd, true⟩).val, .int .u64 (doH c ⟨0, id, h, d, f, q, t, pd, true⟩ : Int), .int .i64 (doE c ⟨0, id, h, d, f, q, t, pd, true⟩)]) (doV c ⟨0, id, h, d, f, q, t, pd, true⟩)) := by
  obtain ⟨B, P, M, hT⟩ := hT
  obtain ⟨s, hs⟩ : ∃ s, s = sideN id := ⟨_, rfl⟩
  obtain ⟨o, ho⟩ : ∃ o, o = 1 - s := ⟨_, rfl⟩
  have hs2 : s < 2 := by rw [hs]; exact sideN_lt id
  obtain ⟨Y, hY⟩ : ∃ Y, Y = w.heap.size := ⟨_, rfl⟩
  obtain ⟨wb, hwb⟩ : ∃ z, z = (w.alloc (.cells #[.int .i64 0, .int .i64 id, .int .u64 (h : Int), .string d, .int .i64 f, .int .u64 (q : Int), .int .u64 (t : Int), .string pd, .bool true] 50)).alloc (.cells #[.int .i64 0, .int .u64 0, .int .u64 0, .string ⟨#[]⟩] 46) := ⟨_, rfl⟩
  have HB0 : Hid (DoS Y w O O X c ⟨0, id, h, d, f, q, t, pd, true⟩ B P M wb) := Lib.hid (by rw [hwb, hY]; exact DoS.start hT ⟨0, id, h, d, f, q, t, pd, true⟩)
  have HSD := Lib.hid (fun (z : World) (n : Nat) => Calls.quiet_of_same (side_one id (z.drewN n)))
  rw [← hs] at HSD
  have hw1 : IntKind.i64.wrap (1 - (s : Int)) = (o : Int) := by rw [IntWalk.i64_in _ (by omega)]; omega
  have i1 : (s : Int) < 2 := by omega
  have i2 : (o : Int) < 2 := by omega
  have HSO : Hid (s < 2 ∧ o < 2 ∧ CaV.s ⟨0, id, h, d, f, q, t, pd, true⟩ = s ∧ CaV.o ⟨0, id, h, d, f, q, t, pd, true⟩ = o) := Lib.hid ⟨hs2, by omega, hs.symm, by show 1 - sideN id = o; rw [ho, hs]⟩
  have HOK := Lib.hid (And.intro (hk s hs2) (And.intro (hk o (by omega)) (And.intro hm (And.intro ha (And.intro hL (And.intro hO (CaV.pr_size hk hm ha)))))))
  have HYW := Lib.hid hY
  clear hT hk hm ha hL hO hs ho hs2
  have e0 := HSO.out.2.2.1
  have v1 : doV c ⟨0, id, h, d, f, q, t, pd, true⟩ = updF c s (sendC (c s) d h) := by unfold doV doC; rw [if_pos rfl, e0]
  have v2 : doP c ⟨0, id, h, d, f, q, t, pd, true⟩ = sendP (c s) d h := by unfold doP; rw [if_pos rfl, e0]
  have v3 : doH c ⟨0, id, h, d, f, q, t, pd, true⟩ = 0 := rfl
  have v4 : doE c ⟨0, id, h, d, f, q, t, pd, true⟩ = firstE (sendE (c s) d h) := by unfold doE; rw [if_pos rfl, e0]
  rw [v1, v2, v3, v4]
  have hsz := HOK.out.2.2.2.1.d
  have HSE := Lib.hid (fun z hc hL => cn_send (w := z) (O := P s) (B := B s) d h hc HOK.out.1.ok HOK.out.2.2.2.1.h (by show d.size ≤ 9223372036854775807; have hsz : d.size ≤ 2000 := hsz; omega) hL)
  clear v1 v2 v3 v4 e0 hsz
  obtain ⟨er, her⟩ : ∃ er, er = firstE (sendE (c s) d h) := ⟨_, rfl⟩
  obtain ⟨pf, pq, pt, ppd, hp⟩ : ∃ pf pq pt ppd, sendP (c s) d h = ⟨pf, pq, pt, ppd⟩ := ⟨_, _, _, _, rfl⟩
  rw [hp, ← her] at HSE ⊢
  simp only [PkV.val] at HSE ⊢
  generalize sendC (c s) d h = c' at *
  clear her hp
  go_enter Tryz.func17, Tryz.ntmps17
  go_wp2
  rw [← hwb, ← hY]
  clear hwb hY
  have a1 := Kq.blk_cell HB0.out.bx 1
  simp only [CaV.cells] at a1
  have x1 := HB0.out.tw.cell s HSO.out.1
  have x2 := HB0.out.tw.cell o HSO.out.2.1
  go_quiet ((first | (go_at_call 20; exact HSD.out _ _)))
  generalize hwq : wb.drewN nq = wq
  have HB1 : Hid (DoS Y w O O X c ⟨0, id, h, d, f, q, t, pd, true⟩ B P M wq) := Lib.hid (by rw [← hwq]; exact HB0.out.below (below_drewN (Below.refl _ _) nq))
  have HLD : Hid (LaidOk wq) := Lib.hid (HOK.out.2.2.2.2.1.keeps HB1.out.kp HOK.out.2.2.2.2.2.1.1 HOK.out.2.2.2.2.2.1.2)
  clear hwq HB0 a1 x1 x2 HSD hw1 i1 i2 nq
  have a0 := Kq.blk_cell HB1.out.bx 0
  have a2 := Kq.blk_cell HB1.out.bx 2
  have a3 := Kq.blk_cell HB1.out.bx 3
  have a4 := Kq.blk_cell HB1.out.bx 4
  have a5 := Kq.blk_cell HB1.out.bx 5
  have a6 := Kq.blk_cell HB1.out.bx 6
  have a7 := Kq.blk_cell HB1.out.bx 7
  have a8 := Kq.blk_cell HB1.out.bx 8
  simp only [CaV.cells] at a0 a2 a3 a4 a5 a6 a7 a8
  go_wp2_with fail
  refine (HSE.out wq (HB1.out.tw.ch s HSO.out.1) HLD.out).mono ?_
  rintro x w2 hst
  have hx := hst.1
  subst hx
  have hb := Kq.below_alloc w2 (.cells #[.int .i64 pf, .int .u64 pq, .int .u64 pt, .string ppd] 46)
  have HB2 := Lib.hid ((HB1.out.step HSO.out.1 hst).below hb)
  clear hst hb HB1 HLD a0 a2 a3 a4 a5 a6 a7 a8
  have r0 := Kq.blk_cell HB2.out.rs 0
  have r1 := Kq.blk_cell HB2.out.rs 1
  have r2 := Kq.blk_cell HB2.out.rs 2
  have r3 := Kq.blk_cell HB2.out.rs 3
  have g0 := Kq.blk_free HB2.out.rs 0
  have g1 := Kq.blk_free HB2.out.rs 1
  have g2 := Kq.blk_free HB2.out.rs 2
  have g3 := Kq.blk_free HB2.out.rs 3
  go_wp2
  obtain ⟨q1, q2, q3⟩ := HB2.out.fill pf pq pt ppd
  change bodyPost _ _ _ _ _ (fillW (w2.alloc (.cells #[.int .i64 pf, .int .u64 pq, .int .u64 pt, .string ppd] 46)) (Y + 1) pf pq pt ppd)
  have z0' := Kq.blk_cell q1 0
  have z1' := Kq.blk_cell q1 1
  have z2' := Kq.blk_cell q1 2
  have z3' := Kq.blk_cell q1 3
  generalize fillW (w2.alloc (.cells #[.int .i64 pf, .int .u64 pq, .int .u64 pt, .string ppd] 46)) (Y + 1) pf pq pt ppd = w9 at *
  refine bodyPost_ret (v := .tuple #[.agg #[.int .i64 pf, .int .u64 pq, .int .u64 pt, .string ppd], .int .u64 0, .int .i64 er]) (by simp [results, Tryz.results17, go_sem, z0', z1', z2', z3']) rfl ?_
  exact ⟨rfl, q2, q3⟩
set_option maxRecDepth 100000 in
set_option maxHeartbeats 1000000 in
theorem do_k0f {w : World} {O : Nat → Prop} {X : Nat} {c : Nat → ChV} {m : Nat} (id : Int) (h q t : Nat) (d pd : ByteArray) (f : Int) (hT : TwP w O X c) (hk : TwK m c) (hm : m ≤ 400) (ha : CaOk ⟨0, id, h, d, f, q, t, pd, false⟩) (hL : LaidOk w) (hO : ¬ O 1 ∧ ¬ O 0) : Calls Tryz.prog 17 #[.pointer (some ⟨X, 0, none⟩), .agg #[.int .i64 0, .int .i64 id, .int .u64 (h : Int), .string d, .int .i64 f, .int .u64 (q : Int), .int .u64 (t : Int), .string pd, .bool false]] w (StepT w O X (.tuple #[(doP c ⟨0, id, h, d, f, q, t, pd, false⟩).val, .int .u64 (doH c ⟨0, id, h, d, f, q, t, pd, false⟩ : Int), .int .i64 (doE c ⟨0, id, h, d, f, q, t, pd, false⟩)]) (doV c ⟨0, id, h, d, f, q, t, pd, false⟩)) := by
  obtain ⟨B, P, M, hT⟩ := hT
  obtain ⟨s, hs⟩ : ∃ s, s = sideN id := ⟨_, rfl⟩
  obtain ⟨o, ho⟩ : ∃ o, o = 1 - s := ⟨_, rfl⟩
  have hs2 : s < 2 := by rw [hs]; exact sideN_lt id
  obtain ⟨Y, hY⟩ : ∃ Y, Y = w.heap.size := ⟨_, rfl⟩
  obtain ⟨wb, hwb⟩ : ∃ z, z = (w.alloc (.cells #[.int .i64 0, .int .i64 id, .int .u64 (h : Int), .string d, .int .i64 f, .int .u64 (q : Int), .int .u64 (t : Int), .string pd, .bool false] 50)).alloc (.cells #[.int .i64 0, .int .u64 0, .int .u64 0, .string ⟨#[]⟩] 46) := ⟨_, rfl⟩
  have HB0 : Hid (DoS Y w O O X c ⟨0, id, h, d, f, q, t, pd, false⟩ B P M wb) := Lib.hid (by rw [hwb, hY]; exact DoS.start hT ⟨0, id, h, d, f, q, t, pd, false⟩)
  have HSD := Lib.hid (fun (z : World) (n : Nat) => Calls.quiet_of_same (side_one id (z.drewN n)))
  rw [← hs] at HSD
  have hw1 : IntKind.i64.wrap (1 - (s : Int)) = (o : Int) := by rw [IntWalk.i64_in _ (by omega)]; omega
  have i1 : (s : Int) < 2 := by omega
  have i2 : (o : Int) < 2 := by omega
  have HSO : Hid (s < 2 ∧ o < 2 ∧ CaV.s ⟨0, id, h, d, f, q, t, pd, false⟩ = s ∧ CaV.o ⟨0, id, h, d, f, q, t, pd, false⟩ = o) := Lib.hid ⟨hs2, by omega, hs.symm, by show 1 - sideN id = o; rw [ho, hs]⟩
  have HOK := Lib.hid (And.intro (hk s hs2) (And.intro (hk o (by omega)) (And.intro hm (And.intro ha (And.intro hL (And.intro hO (CaV.pr_size hk hm ha)))))))
  have HYW := Lib.hid hY
  clear hT hk hm ha hL hO hs ho hs2
  have e0 := HSO.out.2.2.1
  have v1 : doV c ⟨0, id, h, d, f, q, t, pd, false⟩ = updF c s (sendC (c s) d h) := by unfold doV doC; rw [if_pos rfl, e0]
  have v2 : doP c ⟨0, id, h, d, f, q, t, pd, false⟩ = sendP (c s) d h := by unfold doP; rw [if_pos rfl, e0]
  have v3 : doH c ⟨0, id, h, d, f, q, t, pd, false⟩ = 0 := rfl
  have v4 : doE c ⟨0, id, h, d, f, q, t, pd, false⟩ = firstE (sendE (c s) d h) := by unfold doE; rw [if_pos rfl, e0]
  rw [v1, v2, v3, v4]
  have hsz := HOK.out.2.2.2.1.d
  have HSE := Lib.hid (fun z hc hL => cn_send (w := z) (O := P s) (B := B s) d h hc HOK.out.1.ok HOK.out.2.2.2.1.h (by show d.size ≤ 9223372036854775807; have hsz : d.size ≤ 2000 := hsz; omega) hL)
  clear v1 v2 v3 v4 e0 hsz
  obtain ⟨er, her⟩ : ∃ er, er = firstE (sendE (c s) d h) := ⟨_, rfl⟩
  obtain ⟨pf, pq, pt, ppd, hp⟩ : ∃ pf pq pt ppd, sendP (c s) d h = ⟨pf, pq, pt, ppd⟩ := ⟨_, _, _, _, rfl⟩
  rw [hp, ← her] at HSE ⊢
  simp only [PkV.val] at HSE ⊢
  generalize sendC (c s) d h = c' at *
  clear her hp
  go_enter Tryz.func17, Tryz.ntmps17
  go_wp2
  rw [← hwb, ← hY]
  clear hwb hY
  have a1 := Kq.blk_cell HB0.out.bx 1
  simp only [CaV.cells] at a1
  have x1 := HB0.out.tw.cell s HSO.out.1
  have x2 := HB0.out.tw.cell o HSO.out.2.1
  go_quiet ((first | (go_at_call 20; exact HSD.out _ _)))
  generalize hwq : wb.drewN nq = wq
  have HB1 : Hid (DoS Y w O O X c ⟨0, id, h, d, f, q, t, pd, false⟩ B P M wq) := Lib.hid (by rw [← hwq]; exact HB0.out.below (below_drewN (Below.refl _ _) nq))
  have HLD : Hid (LaidOk wq) := Lib.hid (HOK.out.2.2.2.2.1.keeps HB1.out.kp HOK.out.2.2.2.2.2.1.1 HOK.out.2.2.2.2.2.1.2)
  clear hwq HB0 a1 x1 x2 HSD hw1 i1 i2 nq
  have a0 := Kq.blk_cell HB1.out.bx 0
  have a2 := Kq.blk_cell HB1.out.bx 2
  have a3 := Kq.blk_cell HB1.out.bx 3
  have a4 := Kq.blk_cell HB1.out.bx 4
  have a5 := Kq.blk_cell HB1.out.bx 5
  have a6 := Kq.blk_cell HB1.out.bx 6
  have a7 := Kq.blk_cell HB1.out.bx 7
  have a8 := Kq.blk_cell HB1.out.bx 8
  simp only [CaV.cells] at a0 a2 a3 a4 a5 a6 a7 a8
  go_wp2_with fail
  refine (HSE.out wq (HB1.out.tw.ch s HSO.out.1) HLD.out).mono ?_
  rintro x w2 hst
  have hx := hst.1
  subst hx
  have hb := Kq.below_alloc w2 (.cells #[.int .i64 pf, .int .u64 pq, .int .u64 pt, .string ppd] 46)
  have HB2 := Lib.hid ((HB1.out.step HSO.out.1 hst).below hb)
  clear hst hb HB1 HLD a0 a2 a3 a4 a5 a6 a7 a8
  have r0 := Kq.blk_cell HB2.out.rs 0
  have r1 := Kq.blk_cell HB2.out.rs 1
  have r2 := Kq.blk_cell HB2.out.rs 2
  have r3 := Kq.blk_cell HB2.out.rs 3
  have g0 := Kq.blk_free HB2.out.rs 0
  have g1 := Kq.blk_free HB2.out.rs 1
  have g2 := Kq.blk_free HB2.out.rs 2
  have g3 := Kq.blk_free HB2.out.rs 3
  go_wp2
  obtain ⟨q1, q2, q3⟩ := HB2.out.fill pf pq pt ppd
  change bodyPost _ _ _ _ _ (fillW (w2.alloc (.cells #[.int .i64 pf, .int .u64 pq, .int .u64 pt, .string ppd] 46)) (Y + 1) pf pq pt ppd)
  have z0' := Kq.blk_cell q1 0
  have z1' := Kq.blk_cell q1 1
  have z2' := Kq.blk_cell q1 2
  have z3' := Kq.blk_cell q1 3
  generalize fillW (w2.alloc (.cells #[.int .i64 pf, .int .u64 pq, .int .u64 pt, .string ppd] 46)) (Y + 1) pf pq pt ppd = w9 at *
  refine bodyPost_ret (v := .tuple #[.agg #[.int .i64 pf, .int .u64 pq, .int .u64 pt, .string ppd], .int .u64 0, .int .i64 er]) (by simp [results, Tryz.results17, go_sem, z0', z1', z2', z3']) rfl ?_
  exact ⟨rfl, q2, q3⟩
end Go.Proofs.YtbjchfcoacmaaaaGreatDoor
namespace Go.Proofs.YtbjchfcoacmaaaaGreatDoor
open Go.RowKit
set_option linter.unusedVariables false
set_option maxRecDepth 100000 in
set_option maxHeartbeats 1000000 in
theorem do_k1ty {w : World} {O : Nat → Prop} {X : Nat} {c : Nat → ChV} {m : Nat} (id : Int) (h q t : Nat) (d pd : ByteArray) (f : Int) (hre0 : ∀ o, o = CaV.o ⟨1, id, h, d, f, q, t, pd, true⟩ → (rootV (c o).st h).2 = 0) (hT : TwP w O X c) (hk : TwK m c) (hm : m ≤ 400) (ha : CaOk ⟨1, id, h, d, f, q, t, pd, true⟩) (hL : LaidOk w) (hO : ¬ O 1 ∧ ¬ O 0) : Calls Tryz.prog 17 #[.pointer (some ⟨X, 0, none⟩), .agg #[.int .i64 1, .int .i64 id, .int .u64 (h : Int), .string d, .int .i64 f, .int .u64 (q : Int), .int .u64 (t : Int), .string pd, .bool true]] w (StepT w O X (.tuple #[(doP c ⟨1, id, h, d, f, q, t, pd, true⟩).val, .int .u64 (doH c ⟨1, id, h, d, f, q, t, pd, true⟩ : Int), .int .i64 (doE c ⟨1, id, h, d, f, q, t, pd, true⟩)]) (doV c ⟨1, id, h, d, f, q, t, pd, true⟩)) := by
  obtain ⟨B, P, M, hT⟩ := hT
  obtain ⟨s, hs⟩ : ∃ s, s = sideN id := ⟨_, rfl⟩
  obtain ⟨o, ho⟩ : ∃ o, o = 1 - s := ⟨_, rfl⟩
  have hs2 : s < 2 := by rw [hs]; exact sideN_lt id
  obtain ⟨Y, hY⟩ : ∃ Y, Y = w.heap.size := ⟨_, rfl⟩
  obtain ⟨wb, hwb⟩ : ∃ z, z = (w.alloc (.cells #[.int .i64 1, .int .i64 id, .int .u64 (h : Int), .string d, .int .i64 f, .int .u64 (q : Int), .int .u64 (t : Int), .string pd, .bool true] 50)).alloc (.cells #[.int .i64 0, .int .u64 0, .int .u64 0, .string ⟨#[]⟩] 46) := ⟨_, rfl⟩
  have HB0 : Hid (DoS Y w O O X c ⟨1, id, h, d, f, q, t, pd, true⟩ B P M wb) := Lib.hid (by rw [hwb, hY]; exact DoS.start hT ⟨1, id, h, d, f, q, t, pd, true⟩)
  have HSD := Lib.hid (fun (z : World) (n : Nat) => Calls.quiet_of_same (side_one id (z.drewN n)))
  rw [← hs] at HSD
  have hw1 : IntKind.i64.wrap (1 - (s : Int)) = (o : Int) := by rw [IntWalk.i64_in _ (by omega)]; omega
  have i1 : (s : Int) < 2 := by omega
  have i2 : (o : Int) < 2 := by omega
  have HSO : Hid (s < 2 ∧ o < 2 ∧ CaV.s ⟨1, id, h, d, f, q, t, pd, true⟩ = s ∧ CaV.o ⟨1, id, h, d, f, q, t, pd, true⟩ = o) := Lib.hid ⟨hs2, by omega, hs.symm, by show 1 - sideN id = o; rw [ho, hs]⟩
  have HOK := Lib.hid (And.intro (hk s hs2) (And.intro (hk o (by omega)) (And.intro hm (And.intro ha (And.intro hL (And.intro hO (CaV.pr_size hk hm ha)))))))
  have HYW := Lib.hid hY
  clear hT hk hm ha hL hO hs ho hs2
  have e0 := HSO.out.2.2.1
  have e1 := HSO.out.2.2.2
  obtain ⟨re, hre⟩ : ∃ re, re = (rootV (c o).st h).2 := ⟨_, rfl⟩
  obtain ⟨rt, hrt⟩ : ∃ rt, rt = (rootV (c o).st h).1 := ⟨_, rfl⟩
  have hrz : (rootV (c o).st h).2 = 0 := hre0 o e1.symm
  have v1 : doV c ⟨1, id, h, d, f, q, t, pd, true⟩ = updF c s (updC (c s) h rt) := by unfold doV doC; rw [e0, e1, if_neg (by simp), if_pos rfl, if_pos hrz, ← hrt]
  have v2 : doP c ⟨1, id, h, d, f, q, t, pd, true⟩ = zeroPk := by unfold doP; rw [if_neg (by simp)]
  have v3 : doH c ⟨1, id, h, d, f, q, t, pd, true⟩ = 0 := rfl
  have v4 : doE c ⟨1, id, h, d, f, q, t, pd, true⟩ = (setF h rt (c s).hs (c s).f).2.2 := by unfold doE; rw [e0, e1, if_neg (by simp), if_pos rfl, if_pos hrz, ← hrt]
  rw [v1, v2, v3, v4]
  have HRT := Lib.hid (fun z hc hL => cn_root (w := z) (O := P o) (B := B o) h hc HOK.out.2.1.ok HOK.out.2.2.2.1.h hL)
  rw [← hre, ← hrt] at HRT
  have hsz : rt.size ≤ 32 := by rw [hrt]; exact rootV_size _ _
  have HUP := Lib.hid (fun z hc => cn_update (w := z) (O := P s) (B := B s) h rt hc HOK.out.1.ok HOK.out.2.2.2.1.h (by unfold maxLen; omega))
  obtain ⟨er, her⟩ : ∃ er, er = (setF h rt (c s).hs (c s).f).2.2 := ⟨_, rfl⟩
  rw [← her] at HUP ⊢
  generalize updC (c s) h rt = c' at *
  obtain rfl : re = 0 := hre.trans hrz
  have HZ : Hid (zeroPk.val = .agg #[.int .i64 0, .int .u64 0, .int .u64 0, .string ⟨#[]⟩]) := Lib.hid rfl
  rw [HZ.out]
  clear v1 v2 v3 v4 e0 e1 hre hrt hrz hsz her HZ
  go_enter Tryz.func17, Tryz.ntmps17
  go_wp2
  rw [← hwb, ← hY]
  clear hwb hY
  have a1 := Kq.blk_cell HB0.out.bx 1
  simp only [CaV.cells] at a1
  have x1 := HB0.out.tw.cell s HSO.out.1
  have x2 := HB0.out.tw.cell o HSO.out.2.1
  go_quiet ((first | (go_at_call 20; exact HSD.out _ _)))
  generalize hwq : wb.drewN nq = wq
  have HB1 : Hid (DoS Y w O O X c ⟨1, id, h, d, f, q, t, pd, true⟩ B P M wq) := Lib.hid (by rw [← hwq]; exact HB0.out.below (below_drewN (Below.refl _ _) nq))
  have HLD : Hid (LaidOk wq) := Lib.hid (HOK.out.2.2.2.2.1.keeps HB1.out.kp HOK.out.2.2.2.2.2.1.1 HOK.out.2.2.2.2.2.1.2)
  clear hwq HB0 a1 x1 x2 HSD hw1 i1 i2 nq
  have a0 := Kq.blk_cell HB1.out.bx 0
  have a2 := Kq.blk_cell HB1.out.bx 2
  have a3 := Kq.blk_cell HB1.out.bx 3
  have a4 := Kq.blk_cell HB1.out.bx 4
  have a5 := Kq.blk_cell HB1.out.bx 5
  have a6 := Kq.blk_cell HB1.out.bx 6
  have a7 := Kq.blk_cell HB1.out.bx 7
  have a8 := Kq.blk_cell HB1.out.bx 8
  simp only [CaV.cells] at a0 a2 a3 a4 a5 a6 a7 a8
  go_wp2_with fail
  refine (HRT.out wq (HB1.out.tw.ch o HSO.out.2.1) HLD.out).mono ?_
  rintro x w2 ⟨rfl, b2⟩
  have HB2 := Lib.hid (HB1.out.below b2)
  clear b2 HB1 HLD a0 a2 a3 a4 a5 a6 a7 a8
  have a2 := Kq.blk_cell HB2.out.bx 2
  simp only [CaV.cells] at a2
  go_wp2_with fail
  refine (HUP.out w2 (HB2.out.tw.ch s HSO.out.1)).mono ?_
  rintro x w3 hst
  have hx := hst.1
  subst hx
  have HB3 := Lib.hid (HB2.out.step HSO.out.1 hst)
  clear hst HB2 a2
  have r0 := Kq.blk_cell HB3.out.rs 0
  have r1 := Kq.blk_cell HB3.out.rs 1
  have r2 := Kq.blk_cell HB3.out.rs 2
  have r3 := Kq.blk_cell HB3.out.rs 3
  have g0 := Kq.blk_free HB3.out.rs 0
  have g1 := Kq.blk_free HB3.out.rs 1
  have g2 := Kq.blk_free HB3.out.rs 2
  have g3 := Kq.blk_free HB3.out.rs 3
  go_wp2
  obtain ⟨q1, q2, q3⟩ := HB3.out.fill 0 0 0 ⟨#[]⟩
  change bodyPost _ _ _ _ _ (fillW w3 (Y + 1) 0 0 0 ⟨#[]⟩)
  have z0' := Kq.blk_cell q1 0
  have z1' := Kq.blk_cell q1 1
  have z2' := Kq.blk_cell q1 2
  have z3' := Kq.blk_cell q1 3
  generalize fillW w3 (Y + 1) 0 0 0 ⟨#[]⟩ = w9 at *
  refine bodyPost_ret (v := .tuple #[.agg #[.int .i64 0, .int .u64 0, .int .u64 0, .string ⟨#[]⟩], .int .u64 0, .int .i64 er]) (by simp [results, Tryz.results17, go_sem, z0', z1', z2', z3']) rfl ?_
  exact ⟨rfl, q2, q3⟩
set_option maxRecDepth 100000 in
set_option maxHeartbeats 1000000 in
theorem do_k1tn {w : World} {O : Nat → Prop} {X : Nat} {c : Nat → ChV} {m : Nat} (id : Int) (h q t : Nat) (d pd : ByteArray) (f : Int) (hre0 : ∀ o, o = CaV.o ⟨1, id, h, d, f, q, t, pd, true⟩ → (rootV (c o).st h).2 ≠ 0) (hT : TwP w O X c) (hk : TwK m c) (hm : m ≤ 400) (ha : CaOk ⟨1, id, h, d, f, q, t, pd, true⟩) (hL : LaidOk w) (hO : ¬ O 1 ∧ ¬ O 0) : Calls Tryz.prog 17 #[.pointer (some ⟨X, 0, none⟩), .agg #[.int .i64 1, .int .i64 id, .int .u64 (h : Int), .string d, .int .i64 f, .int .u64 (q : Int), .int .u64 (t : Int), .string pd, .bool true]] w (StepT w O X (.tuple #[(doP c ⟨1, id, h, d, f, q, t, pd, true⟩).val, .int .u64 (doH c ⟨1, id, h, d, f, q, t, pd, true⟩ : Int), .int .i64 (doE c ⟨1, id, h, d, f, q, t, pd, true⟩)]) (doV c ⟨1, id, h, d, f, q, t, pd, true⟩)) := by
  obtain ⟨B, P, M, hT⟩ := hT
  obtain ⟨s, hs⟩ : ∃ s, s = sideN id := ⟨_, rfl⟩
  obtain ⟨o, ho⟩ : ∃ o, o = 1 - s := ⟨_, rfl⟩
  have hs2 : s < 2 := by rw [hs]; exact sideN_lt id
  obtain ⟨Y, hY⟩ : ∃ Y, Y = w.heap.size := ⟨_, rfl⟩
  obtain ⟨wb, hwb⟩ : ∃ z, z = (w.alloc (.cells #[.int .i64 1, .int .i64 id, .int .u64 (h : Int), .string d, .int .i64 f, .int .u64 (q : Int), .int .u64 (t : Int), .string pd, .bool true] 50)).alloc (.cells #[.int .i64 0, .int .u64 0, .int .u64 0, .string ⟨#[]⟩] 46) := ⟨_, rfl⟩
  have HB0 : Hid (DoS Y w O O X c ⟨1, id, h, d, f, q, t, pd, true⟩ B P M wb) := Lib.hid (by rw [hwb, hY]; exact DoS.start hT ⟨1, id, h, d, f, q, t, pd, true⟩)
  have HSD := Lib.hid (fun (z : World) (n : Nat) => Calls.quiet_of_same (side_one id (z.drewN n)))
  rw [← hs] at HSD
  have hw1 : IntKind.i64.wrap (1 - (s : Int)) = (o : Int) := by rw [IntWalk.i64_in _ (by omega)]; omega
  have i1 : (s : Int) < 2 := by omega
  have i2 : (o : Int) < 2 := by omega
  have HSO : Hid (s < 2 ∧ o < 2 ∧ CaV.s ⟨1, id, h, d, f, q, t, pd, true⟩ = s ∧ CaV.o ⟨1, id, h, d, f, q, t, pd, true⟩ = o) := Lib.hid ⟨hs2, by omega, hs.symm, by show 1 - sideN id = o; rw [ho, hs]⟩
  have HOK := Lib.hid (And.intro (hk s hs2) (And.intro (hk o (by omega)) (And.intro hm (And.intro ha (And.intro hL (And.intro hO (CaV.pr_size hk hm ha)))))))
  have HYW := Lib.hid hY
  clear hT hk hm ha hL hO hs ho hs2
  have e0 := HSO.out.2.2.1
  have e1 := HSO.out.2.2.2
  obtain ⟨re, hre⟩ : ∃ re, re = (rootV (c o).st h).2 := ⟨_, rfl⟩
  obtain ⟨rt, hrt⟩ : ∃ rt, rt = (rootV (c o).st h).1 := ⟨_, rfl⟩
  have hrz : (rootV (c o).st h).2 ≠ 0 := hre0 o e1.symm
  have v1 : doV c ⟨1, id, h, d, f, q, t, pd, true⟩ = updF c s (c s) := by unfold doV doC; rw [e0, e1, if_neg (by simp), if_pos rfl, if_neg hrz]
  have v2 : doP c ⟨1, id, h, d, f, q, t, pd, true⟩ = zeroPk := by unfold doP; rw [if_neg (by simp)]
  have v3 : doH c ⟨1, id, h, d, f, q, t, pd, true⟩ = 0 := rfl
  have v4 : doE c ⟨1, id, h, d, f, q, t, pd, true⟩ = re := by unfold doE; rw [e0, e1, if_neg (by simp), if_pos rfl, if_neg hrz, ← hre]
  rw [v1, v2, v3, v4]
  have HRT := Lib.hid (fun z hc hL => cn_root (w := z) (O := P o) (B := B o) h hc HOK.out.2.1.ok HOK.out.2.2.2.1.h hL)
  rw [← hre, ← hrt] at HRT
  have hsz : rt.size ≤ 32 := by rw [hrt]; exact rootV_size _ _
  have rz : (re != 0) = true := by rw [bne_iff_ne, hre]; exact hrz
  have HZ : Hid (zeroPk.val = .agg #[.int .i64 0, .int .u64 0, .int .u64 0, .string ⟨#[]⟩]) := Lib.hid rfl
  rw [HZ.out, updF_same]
  clear v1 v2 v3 v4 e0 e1 hre hrt hrz hsz HZ
  go_enter Tryz.func17, Tryz.ntmps17
  go_wp2
  rw [← hwb, ← hY]
  clear hwb hY
  have a1 := Kq.blk_cell HB0.out.bx 1
  simp only [CaV.cells] at a1
  have x1 := HB0.out.tw.cell s HSO.out.1
  have x2 := HB0.out.tw.cell o HSO.out.2.1
  go_quiet ((first | (go_at_call 20; exact HSD.out _ _)))
  generalize hwq : wb.drewN nq = wq
  have HB1 : Hid (DoS Y w O O X c ⟨1, id, h, d, f, q, t, pd, true⟩ B P M wq) := Lib.hid (by rw [← hwq]; exact HB0.out.below (below_drewN (Below.refl _ _) nq))
  have HLD : Hid (LaidOk wq) := Lib.hid (HOK.out.2.2.2.2.1.keeps HB1.out.kp HOK.out.2.2.2.2.2.1.1 HOK.out.2.2.2.2.2.1.2)
  clear hwq HB0 a1 x1 x2 HSD hw1 i1 i2 nq
  have a0 := Kq.blk_cell HB1.out.bx 0
  have a2 := Kq.blk_cell HB1.out.bx 2
  have a3 := Kq.blk_cell HB1.out.bx 3
  have a4 := Kq.blk_cell HB1.out.bx 4
  have a5 := Kq.blk_cell HB1.out.bx 5
  have a6 := Kq.blk_cell HB1.out.bx 6
  have a7 := Kq.blk_cell HB1.out.bx 7
  have a8 := Kq.blk_cell HB1.out.bx 8
  simp only [CaV.cells] at a0 a2 a3 a4 a5 a6 a7 a8
  go_wp2_with fail
  refine (HRT.out wq (HB1.out.tw.ch o HSO.out.2.1) HLD.out).mono ?_
  rintro x w2 ⟨rfl, b2⟩
  have HB2 := Lib.hid (HB1.out.below b2)
  clear b2 HB1 HLD a0 a2 a3 a4 a5 a6 a7 a8
  have r0 := Kq.blk_cell HB2.out.rs 0
  have r1 := Kq.blk_cell HB2.out.rs 1
  have r2 := Kq.blk_cell HB2.out.rs 2
  have r3 := Kq.blk_cell HB2.out.rs 3
  have g0 := Kq.blk_free HB2.out.rs 0
  have g1 := Kq.blk_free HB2.out.rs 1
  have g2 := Kq.blk_free HB2.out.rs 2
  have g3 := Kq.blk_free HB2.out.rs 3
  go_wp2
  obtain ⟨q1, q2, q3⟩ := HB2.out.fill 0 0 0 ⟨#[]⟩
  change bodyPost _ _ _ _ _ (fillW w2 (Y + 1) 0 0 0 ⟨#[]⟩)
  have z0' := Kq.blk_cell q1 0
  have z1' := Kq.blk_cell q1 1
  have z2' := Kq.blk_cell q1 2
  have z3' := Kq.blk_cell q1 3
  generalize fillW w2 (Y + 1) 0 0 0 ⟨#[]⟩ = w9 at *
  refine bodyPost_ret (v := .tuple #[.agg #[.int .i64 0, .int .u64 0, .int .u64 0, .string ⟨#[]⟩], .int .u64 0, .int .i64 re]) (by simp [results, Tryz.results17, go_sem, z0', z1', z2', z3']) rfl ?_
  exact ⟨rfl, q2, q3⟩
set_option maxRecDepth 100000 in
set_option maxHeartbeats 1000000 in
theorem do_k1fy {w : World} {O : Nat → Prop} {X : Nat} {c : Nat → ChV} {m : Nat} (id : Int) (h q t : Nat) (d pd : ByteArray) (f : Int) (hre0 : ∀ o, o = CaV.o ⟨1, id, h, d, f, q, t, pd, false⟩ → (rootV (c o).st h).2 = 0) (hT : TwP w O X c) (hk : TwK m c) (hm : m ≤ 400) (ha : CaOk ⟨1, id, h, d, f, q, t, pd, false⟩) (hL : LaidOk w) (hO : ¬ O 1 ∧ ¬ O 0) : Calls Tryz.prog 17 #[.pointer (some ⟨X, 0, none⟩), .agg #[.int .i64 1, .int .i64 id, .int .u64 (h : Int), .string d, .int .i64 f, .int .u64 (q : Int), .int .u64 (t : Int), .string pd, .bool false]] w (StepT w O X (.tuple #[(doP c ⟨1, id, h, d, f, q, t, pd, false⟩).val, .int .u64 (doH c ⟨1, id, h, d, f, q, t, pd, false⟩ : Int), .int .i64 (doE c ⟨1, id, h, d, f, q, t, pd, false⟩)]) (doV c ⟨1, id, h, d, f, q, t, pd, false⟩)) := by
  obtain ⟨B, P, M, hT⟩ := hT
  obtain ⟨s, hs⟩ : ∃ s, s = sideN id := ⟨_, rfl⟩
  obtain ⟨o, ho⟩ : ∃ o, o = 1 - s := ⟨_, rfl⟩
  have hs2 : s < 2 := by rw [hs]; exact sideN_lt id
  obtain ⟨Y, hY⟩ : ∃ Y, Y = w.heap.size := ⟨_, rfl⟩
  obtain ⟨wb, hwb⟩ : ∃ z, z = (w.alloc (.cells #[.int .i64 1, .int .i64 id, .int .u64 (h : Int), .string d, .int .i64 f, .int .u64 (q : Int), .int .u64 (t : Int), .string pd, .bool false] 50)).alloc (.cells #[.int .i64 0, .int .u64 0, .int .u64 0, .string ⟨#[]⟩] 46) := ⟨_, rfl⟩
  have HB0 : Hid (DoS Y w O O X c ⟨1, id, h, d, f, q, t, pd, false⟩ B P M wb) := Lib.hid (by rw [hwb, hY]; exact DoS.start hT ⟨1, id, h, d, f, q, t, pd, false⟩)
  have HSD := Lib.hid (fun (z : World) (n : Nat) => Calls.quiet_of_same (side_one id (z.drewN n)))
  rw [← hs] at HSD
  have hw1 : IntKind.i64.wrap (1 - (s : Int)) = (o : Int) := by rw [IntWalk.i64_in _ (by omega)]; omega
  have i1 : (s : Int) < 2 := by omega
  have i2 : (o : Int) < 2 := by omega
  have HSO : Hid (s < 2 ∧ o < 2 ∧ CaV.s ⟨1, id, h, d, f, q, t, pd, false⟩ = s ∧ CaV.o ⟨1, id, h, d, f, q, t, pd, false⟩ = o) := Lib.hid ⟨hs2, by omega, hs.symm, by show 1 - sideN id = o; rw [ho, hs]⟩
  have HOK := Lib.hid (And.intro (hk s hs2) (And.intro (hk o (by omega)) (And.intro hm (And.intro ha (And.intro hL (And.intro hO (CaV.pr_size hk hm ha)))))))
  have HYW := Lib.hid hY
  clear hT hk hm ha hL hO hs ho hs2
  have e0 := HSO.out.2.2.1
  have e1 := HSO.out.2.2.2
  obtain ⟨re, hre⟩ : ∃ re, re = (rootV (c o).st h).2 := ⟨_, rfl⟩
  obtain ⟨rt, hrt⟩ : ∃ rt, rt = (rootV (c o).st h).1 := ⟨_, rfl⟩
  have hrz : (rootV (c o).st h).2 = 0 := hre0 o e1.symm
  have v1 : doV c ⟨1, id, h, d, f, q, t, pd, false⟩ = updF c s (updC (c s) h rt) := by unfold doV doC; rw [e0, e1, if_neg (by simp), if_pos rfl, if_pos hrz, ← hrt]
  have v2 : doP c ⟨1, id, h, d, f, q, t, pd, false⟩ = zeroPk := by unfold doP; rw [if_neg (by simp)]
  have v3 : doH c ⟨1, id, h, d, f, q, t, pd, false⟩ = 0 := rfl
  have v4 : doE c ⟨1, id, h, d, f, q, t, pd, false⟩ = (setF h rt (c s).hs (c s).f).2.2 := by unfold doE; rw [e0, e1, if_neg (by simp), if_pos rfl, if_pos hrz, ← hrt]
  rw [v1, v2, v3, v4]
  have HRT := Lib.hid (fun z hc hL => cn_root (w := z) (O := P o) (B := B o) h hc HOK.out.2.1.ok HOK.out.2.2.2.1.h hL)
  rw [← hre, ← hrt] at HRT
  have hsz : rt.size ≤ 32 := by rw [hrt]; exact rootV_size _ _
  have HUP := Lib.hid (fun z hc => cn_update (w := z) (O := P s) (B := B s) h rt hc HOK.out.1.ok HOK.out.2.2.2.1.h (by unfold maxLen; omega))
  obtain ⟨er, her⟩ : ∃ er, er = (setF h rt (c s).hs (c s).f).2.2 := ⟨_, rfl⟩
  rw [← her] at HUP ⊢
  generalize updC (c s) h rt = c' at *
  obtain rfl : re = 0 := hre.trans hrz
  have HZ : Hid (zeroPk.val = .agg #[.int .i64 0, .int .u64 0, .int .u64 0, .string ⟨#[]⟩]) := Lib.hid rfl
  rw [HZ.out]
  clear v1 v2 v3 v4 e0 e1 hre hrt hrz hsz her HZ
  go_enter Tryz.func17, Tryz.ntmps17
  go_wp2
  rw [← hwb, ← hY]
  clear hwb hY
  have a1 := Kq.blk_cell HB0.out.bx 1
  simp only [CaV.cells] at a1
  have x1 := HB0.out.tw.cell s HSO.out.1
  have x2 := HB0.out.tw.cell o HSO.out.2.1
  go_quiet ((first | (go_at_call 20; exact HSD.out _ _)))
  generalize hwq : wb.drewN nq = wq
  have HB1 : Hid (DoS Y w O O X c ⟨1, id, h, d, f, q, t, pd, false⟩ B P M wq) := Lib.hid (by rw [← hwq]; exact HB0.out.below (below_drewN (Below.refl _ _) nq))
  have HLD : Hid (LaidOk wq) := Lib.hid (HOK.out.2.2.2.2.1.keeps HB1.out.kp HOK.out.2.2.2.2.2.1.1 HOK.out.2.2.2.2.2.1.2)
  clear hwq HB0 a1 x1 x2 HSD hw1 i1 i2 nq
  have a0 := Kq.blk_cell HB1.out.bx 0
  have a2 := Kq.blk_cell HB1.out.bx 2
  have a3 := Kq.blk_cell HB1.out.bx 3
  have a4 := Kq.blk_cell HB1.out.bx 4
  have a5 := Kq.blk_cell HB1.out.bx 5
  have a6 := Kq.blk_cell HB1.out.bx 6
  have a7 := Kq.blk_cell HB1.out.bx 7
  have a8 := Kq.blk_cell HB1.out.bx 8
  simp only [CaV.cells] at a0 a2 a3 a4 a5 a6 a7 a8
  go_wp2_with fail
  refine (HRT.out wq (HB1.out.tw.ch o HSO.out.2.1) HLD.out).mono ?_
  rintro x w2 ⟨rfl, b2⟩
  have HB2 := Lib.hid (HB1.out.below b2)
  clear b2 HB1 HLD a0 a2 a3 a4 a5 a6 a7 a8
  have a2 := Kq.blk_cell HB2.out.bx 2
  simp only [CaV.cells] at a2
  go_wp2_with fail
  refine (HUP.out w2 (HB2.out.tw.ch s HSO.out.1)).mono ?_
  rintro x w3 hst
  have hx := hst.1
  subst hx
  have HB3 := Lib.hid (HB2.out.step HSO.out.1 hst)
  clear hst HB2 a2
  have r0 := Kq.blk_cell HB3.out.rs 0
  have r1 := Kq.blk_cell HB3.out.rs 1
  have r2 := Kq.blk_cell HB3.out.rs 2
  have r3 := Kq.blk_cell HB3.out.rs 3
  have g0 := Kq.blk_free HB3.out.rs 0
  have g1 := Kq.blk_free HB3.out.rs 1
  have g2 := Kq.blk_free HB3.out.rs 2
  have g3 := Kq.blk_free HB3.out.rs 3
  go_wp2
  obtain ⟨q1, q2, q3⟩ := HB3.out.fill 0 0 0 ⟨#[]⟩
  change bodyPost _ _ _ _ _ (fillW w3 (Y + 1) 0 0 0 ⟨#[]⟩)
  have z0' := Kq.blk_cell q1 0
  have z1' := Kq.blk_cell q1 1
  have z2' := Kq.blk_cell q1 2
  have z3' := Kq.blk_cell q1 3
  generalize fillW w3 (Y + 1) 0 0 0 ⟨#[]⟩ = w9 at *
  refine bodyPost_ret (v := .tuple #[.agg #[.int .i64 0, .int .u64 0, .int .u64 0, .string ⟨#[]⟩], .int .u64 0, .int .i64 er]) (by simp [results, Tryz.results17, go_sem, z0', z1', z2', z3']) rfl ?_
  exact ⟨rfl, q2, q3⟩
set_option maxRecDepth 100000 in
set_option maxHeartbeats 1000000 in
theorem do_k1fn {w : World} {O : Nat → Prop} {X : Nat} {c : Nat → ChV} {m : Nat} (id : Int) (h q t : Nat) (d pd : ByteArray) (f : Int) (hre0 : ∀ o, o = CaV.o ⟨1, id, h, d, f, q, t, pd, false⟩ → (rootV (c o).st h).2 ≠ 0) (hT : TwP w O X c) (hk : TwK m c) (hm : m ≤ 400) (ha : CaOk ⟨1, id, h, d, f, q, t, pd, false⟩) (hL : LaidOk w) (hO : ¬ O 1 ∧ ¬ O 0) : Calls Tryz.prog 17 #[.pointer (some ⟨X, 0, none⟩), .agg #[.int .i64 1, .int .i64 id, .int .u64 (h : Int), .string d, .int .i64 f, .int .u64 (q : Int), .int .u64 (t : Int), .string pd, .bool false]] w (StepT w O X (.tuple #[(doP c ⟨1, id, h, d, f, q, t, pd, false⟩).val, .int .u64 (doH c ⟨1, id, h, d, f, q, t, pd, false⟩ : Int), .int .i64 (doE c ⟨1, id, h, d, f, q, t, pd, false⟩)]) (doV c ⟨1, id, h, d, f, q, t, pd, false⟩)) := by
  obtain ⟨B, P, M, hT⟩ := hT
  obtain ⟨s, hs⟩ : ∃ s, s = sideN id := ⟨_, rfl⟩
  obtain ⟨o, ho⟩ : ∃ o, o = 1 - s := ⟨_, rfl⟩
  have hs2 : s < 2 := by rw [hs]; exact sideN_lt id
  obtain ⟨Y, hY⟩ : ∃ Y, Y = w.heap.size := ⟨_, rfl⟩
  obtain ⟨wb, hwb⟩ : ∃ z, z = (w.alloc (.cells #[.int .i64 1, .int .i64 id, .int .u64 (h : Int), .string d, .int .i64 f, .int .u64 (q : Int), .int .u64 (t : Int), .string pd, .bool false] 50)).alloc (.cells #[.int .i64 0, .int .u64 0, .int .u64 0, .string ⟨#[]⟩] 46) := ⟨_, rfl⟩
  have HB0 : Hid (DoS Y w O O X c ⟨1, id, h, d, f, q, t, pd, false⟩ B P M wb) := Lib.hid (by rw [hwb, hY]; exact DoS.start hT ⟨1, id, h, d, f, q, t, pd, false⟩)
  have HSD := Lib.hid (fun (z : World) (n : Nat) => Calls.quiet_of_same (side_one id (z.drewN n)))
  rw [← hs] at HSD
  have hw1 : IntKind.i64.wrap (1 - (s : Int)) = (o : Int) := by rw [IntWalk.i64_in _ (by omega)]; omega
  have i1 : (s : Int) < 2 := by omega
  have i2 : (o : Int) < 2 := by omega
  have HSO : Hid (s < 2 ∧ o < 2 ∧ CaV.s ⟨1, id, h, d, f, q, t, pd, false⟩ = s ∧ CaV.o ⟨1, id, h, d, f, q, t, pd, false⟩ = o) := Lib.hid ⟨hs2, by omega, hs.symm, by show 1 - sideN id = o; rw [ho, hs]⟩
  have HOK := Lib.hid (And.intro (hk s hs2) (And.intro (hk o (by omega)) (And.intro hm (And.intro ha (And.intro hL (And.intro hO (CaV.pr_size hk hm ha)))))))
  have HYW := Lib.hid hY
  clear hT hk hm ha hL hO hs ho hs2
  have e0 := HSO.out.2.2.1
  have e1 := HSO.out.2.2.2
  obtain ⟨re, hre⟩ : ∃ re, re = (rootV (c o).st h).2 := ⟨_, rfl⟩
  obtain ⟨rt, hrt⟩ : ∃ rt, rt = (rootV (c o).st h).1 := ⟨_, rfl⟩
  have hrz : (rootV (c o).st h).2 ≠ 0 := hre0 o e1.symm
  have v1 : doV c ⟨1, id, h, d, f, q, t, pd, false⟩ = updF c s (c s) := by unfold doV doC; rw [e0, e1, if_neg (by simp), if_pos rfl, if_neg hrz]
  have v2 : doP c ⟨1, id, h, d, f, q, t, pd, false⟩ = zeroPk := by unfold doP; rw [if_neg (by simp)]
  have v3 : doH c ⟨1, id, h, d, f, q, t, pd, false⟩ = 0 := rfl
  have v4 : doE c ⟨1, id, h, d, f, q, t, pd, false⟩ = re := by unfold doE; rw [e0, e1, if_neg (by simp), if_pos rfl, if_neg hrz, ← hre]
  rw [v1, v2, v3, v4]
  have HRT := Lib.hid (fun z hc hL => cn_root (w := z) (O := P o) (B := B o) h hc HOK.out.2.1.ok HOK.out.2.2.2.1.h hL)
  rw [← hre, ← hrt] at HRT
  have hsz : rt.size ≤ 32 := by rw [hrt]; exact rootV_size _ _
  have rz : (re != 0) = true := by rw [bne_iff_ne, hre]; exact hrz
  have HZ : Hid (zeroPk.val = .agg #[.int .i64 0, .int .u64 0, .int .u64 0, .string ⟨#[]⟩]) := Lib.hid rfl
  rw [HZ.out, updF_same]
  clear v1 v2 v3 v4 e0 e1 hre hrt hrz hsz HZ
  go_enter Tryz.func17, Tryz.ntmps17
  go_wp2
  rw [← hwb, ← hY]
  clear hwb hY
  have a1 := Kq.blk_cell HB0.out.bx 1
  simp only [CaV.cells] at a1
  have x1 := HB0.out.tw.cell s HSO.out.1
  have x2 := HB0.out.tw.cell o HSO.out.2.1
  go_quiet ((first | (go_at_call 20; exact HSD.out _ _)))
  generalize hwq : wb.drewN nq = wq
  have HB1 : Hid (DoS Y w O O X c ⟨1, id, h, d, f, q, t, pd, false⟩ B P M wq) := Lib.hid (by rw [← hwq]; exact HB0.out.below (below_drewN (Below.refl _ _) nq))
  have HLD : Hid (LaidOk wq) := Lib.hid (HOK.out.2.2.2.2.1.keeps HB1.out.kp HOK.out.2.2.2.2.2.1.1 HOK.out.2.2.2.2.2.1.2)
  clear hwq HB0 a1 x1 x2 HSD hw1 i1 i2 nq
  have a0 := Kq.blk_cell HB1.out.bx 0
  have a2 := Kq.blk_cell HB1.out.bx 2
  have a3 := Kq.blk_cell HB1.out.bx 3
  have a4 := Kq.blk_cell HB1.out.bx 4
  have a5 := Kq.blk_cell HB1.out.bx 5
  have a6 := Kq.blk_cell HB1.out.bx 6
  have a7 := Kq.blk_cell HB1.out.bx 7
  have a8 := Kq.blk_cell HB1.out.bx 8
  simp only [CaV.cells] at a0 a2 a3 a4 a5 a6 a7 a8
  go_wp2_with fail
  refine (HRT.out wq (HB1.out.tw.ch o HSO.out.2.1) HLD.out).mono ?_
  rintro x w2 ⟨rfl, b2⟩
  have HB2 := Lib.hid (HB1.out.below b2)
  clear b2 HB1 HLD a0 a2 a3 a4 a5 a6 a7 a8
  have r0 := Kq.blk_cell HB2.out.rs 0
  have r1 := Kq.blk_cell HB2.out.rs 1
  have r2 := Kq.blk_cell HB2.out.rs 2
  have r3 := Kq.blk_cell HB2.out.rs 3
  have g0 := Kq.blk_free HB2.out.rs 0
  have g1 := Kq.blk_free HB2.out.rs 1
  have g2 := Kq.blk_free HB2.out.rs 2
  have g3 := Kq.blk_free HB2.out.rs 3
  go_wp2
  obtain ⟨q1, q2, q3⟩ := HB2.out.fill 0 0 0 ⟨#[]⟩
  change bodyPost _ _ _ _ _ (fillW w2 (Y + 1) 0 0 0 ⟨#[]⟩)
  have z0' := Kq.blk_cell q1 0
  have z1' := Kq.blk_cell q1 1
  have z2' := Kq.blk_cell q1 2
  have z3' := Kq.blk_cell q1 3
  generalize fillW w2 (Y + 1) 0 0 0 ⟨#[]⟩ = w9 at *
  refine bodyPost_ret (v := .tuple #[.agg #[.int .i64 0, .int .u64 0, .int .u64 0, .string ⟨#[]⟩], .int .u64 0, .int .i64 re]) (by simp [results, Tryz.results17, go_sem, z0', z1', z2', z3']) rfl ?_
  exact ⟨rfl, q2, q3⟩
end Go.Proofs.YtbjchfcoacmaaaaGreatDoor
namespace Go.Proofs.YtbjchfcoacmaaaaGreatDoor
open Go.RowKit
set_option linter.unusedVariables false
set_option maxRecDepth 100000 in
set_option maxHeartbeats 1000000 in
theorem do_k2t {w : World} {O : Nat → Prop} {X : Nat} {c : Nat → ChV} {m : Nat} (id : Int) (h q t : Nat) (d pd : ByteArray) (f : Int) (hT : TwP w O X c) (hk : TwK m c) (hm : m ≤ 400) (ha : CaOk ⟨2, id, h, d, f, q, t, pd, true⟩) (hL : LaidOk w) (hO : ¬ O 1 ∧ ¬ O 0) : Calls Tryz.prog 17 #[.pointer (some ⟨X, 0, none⟩), .agg #[.int .i64 2, .int .i64 id, .int .u64 (h : Int), .string d, .int .i64 f, .int .u64 (q : Int), .int .u64 (t : Int), .string pd, .bool true]] w (StepT w O X (.tuple #[(doP c ⟨2, id, h, d, f, q, t, pd, true⟩).val, .int .u64 (doH c ⟨2, id, h, d, f, q, t, pd, true⟩ : Int), .int .i64 (doE c ⟨2, id, h, d, f, q, t, pd, true⟩)]) (doV c ⟨2, id, h, d, f, q, t, pd, true⟩)) := by
  obtain ⟨B, P, M, hT⟩ := hT
  obtain ⟨s, hs⟩ : ∃ s, s = sideN id := ⟨_, rfl⟩
  obtain ⟨o, ho⟩ : ∃ o, o = 1 - s := ⟨_, rfl⟩
  have hs2 : s < 2 := by rw [hs]; exact sideN_lt id
  obtain ⟨Y, hY⟩ : ∃ Y, Y = w.heap.size := ⟨_, rfl⟩
  obtain ⟨wb, hwb⟩ : ∃ z, z = (w.alloc (.cells #[.int .i64 2, .int .i64 id, .int .u64 (h : Int), .string d, .int .i64 f, .int .u64 (q : Int), .int .u64 (t : Int), .string pd, .bool true] 50)).alloc (.cells #[.int .i64 0, .int .u64 0, .int .u64 0, .string ⟨#[]⟩] 46) := ⟨_, rfl⟩
  have HB0 : Hid (DoS Y w O O X c ⟨2, id, h, d, f, q, t, pd, true⟩ B P M wb) := Lib.hid (by rw [hwb, hY]; exact DoS.start hT ⟨2, id, h, d, f, q, t, pd, true⟩)
  have HSD := Lib.hid (fun (z : World) (n : Nat) => Calls.quiet_of_same (side_one id (z.drewN n)))
  rw [← hs] at HSD
  have hw1 : IntKind.i64.wrap (1 - (s : Int)) = (o : Int) := by rw [IntWalk.i64_in _ (by omega)]; omega
  have i1 : (s : Int) < 2 := by omega
  have i2 : (o : Int) < 2 := by omega
  have HSO : Hid (s < 2 ∧ o < 2 ∧ CaV.s ⟨2, id, h, d, f, q, t, pd, true⟩ = s ∧ CaV.o ⟨2, id, h, d, f, q, t, pd, true⟩ = o) := Lib.hid ⟨hs2, by omega, hs.symm, by show 1 - sideN id = o; rw [ho, hs]⟩
  have HOK := Lib.hid (And.intro (hk s hs2) (And.intro (hk o (by omega)) (And.intro hm (And.intro ha (And.intro hL (And.intro hO (CaV.pr_size hk hm ha)))))))
  have HYW := Lib.hid hY
  clear hT hk hm ha hL hO hs ho hs2
  have e0 := HSO.out.2.2.1
  have e1 := HSO.out.2.2.2
  obtain ⟨pr, hpr⟩ : ∃ pr, pr = CaV.pr ⟨2, id, h, d, f, q, t, pd, true⟩ c := ⟨_, rfl⟩
  have hprs : pr.size ≤ 2000 := by rw [hpr]; exact HOK.out.2.2.2.2.2.2
  have v1 : doV c ⟨2, id, h, d, f, q, t, pd, true⟩ = updF c s (recvC (c s) f q t pd pr h) := by unfold doV doC; rw [e0, if_neg (by simp), if_neg (by simp), if_pos rfl, hpr]
  have v2 : doP c ⟨2, id, h, d, f, q, t, pd, true⟩ = zeroPk := by unfold doP; rw [if_neg (by simp)]
  have v3 : doH c ⟨2, id, h, d, f, q, t, pd, true⟩ = 0 := rfl
  have v4 : doE c ⟨2, id, h, d, f, q, t, pd, true⟩ = firstE (recvE (c s) f q t pd pr h) := by unfold doE; rw [e0, if_neg (by simp), if_neg (by simp), if_pos rfl, hpr]
  rw [v1, v2, v3, v4]
  have HRV := Lib.hid (fun z hc hL h1 h2 => cn_recv (w := z) (O := P s) (B := B s) (c := c s) f q t pd pr h hc HOK.out.1.ok HOK.out.2.2.2.1.q HOK.out.2.2.2.1.t HOK.out.2.2.2.1.h (by have h1 : pd.size ≤ 300 := HOK.out.2.2.2.1.pd; unfold maxLen; omega) (by omega) hL ⟨h1, h2⟩)
  obtain ⟨er, her⟩ : ∃ er, er = firstE (recvE (c s) f q t pd pr h) := ⟨_, rfl⟩
  rw [← her] at HRV ⊢
  generalize recvC (c s) f q t pd pr h = c' at *
  have HZ : Hid (zeroPk.val = .agg #[.int .i64 0, .int .u64 0, .int .u64 0, .string ⟨#[]⟩]) := Lib.hid rfl
  rw [HZ.out]
  have HPR : Hid (pr = d) := Lib.hid (by rw [hpr]; rfl)
  rw [HPR.out] at HRV
  clear v1 v2 v3 v4 e0 e1 HZ hpr her hprs HPR
  have HPO : Hid (∀ k j, k < 2 → P k j → O j) := Lib.hid (fun k j hk hj => (HB0.out.tw.sub k j hk hj).1)
  go_enter Tryz.func17, Tryz.ntmps17
  go_wp2
  rw [← hwb, ← hY]
  clear hwb hY
  have a1 := Kq.blk_cell HB0.out.bx 1
  simp only [CaV.cells] at a1
  have x1 := HB0.out.tw.cell s HSO.out.1
  have x2 := HB0.out.tw.cell o HSO.out.2.1
  go_quiet ((first | (go_at_call 20; exact HSD.out _ _)))
  generalize hwq : wb.drewN nq = wq
  have HB1 : Hid (DoS Y w O O X c ⟨2, id, h, d, f, q, t, pd, true⟩ B P M wq) := Lib.hid (by rw [← hwq]; exact HB0.out.below (below_drewN (Below.refl _ _) nq))
  have HLD : Hid (LaidOk wq) := Lib.hid (HOK.out.2.2.2.2.1.keeps HB1.out.kp HOK.out.2.2.2.2.2.1.1 HOK.out.2.2.2.2.2.1.2)
  clear hwq HB0 a1 x1 x2 HSD hw1 i1 i2 nq
  have a0 := Kq.blk_cell HB1.out.bx 0
  have a2 := Kq.blk_cell HB1.out.bx 2
  have a3 := Kq.blk_cell HB1.out.bx 3
  have a4 := Kq.blk_cell HB1.out.bx 4
  have a5 := Kq.blk_cell HB1.out.bx 5
  have a6 := Kq.blk_cell HB1.out.bx 6
  have a7 := Kq.blk_cell HB1.out.bx 7
  have a8 := Kq.blk_cell HB1.out.bx 8
  simp only [CaV.cells] at a0 a2 a3 a4 a5 a6 a7 a8
  go_wp2_with fail
  refine (HRV.out wq (HB1.out.tw.ch s HSO.out.1) HLD.out (fun e => HOK.out.2.2.2.2.2.1.1 (HPO.out s _ HSO.out.1 e)) (fun e => HOK.out.2.2.2.2.2.1.2 (HPO.out s _ HSO.out.1 e))).mono ?_
  rintro x w2 hst
  have hx := hst.1
  subst hx
  have HB2 := Lib.hid (HB1.out.step HSO.out.1 hst)
  clear hst HB1 HLD a0 a2 a3 a4 a5 a6 a7 a8
  have r0 := Kq.blk_cell HB2.out.rs 0
  have r1 := Kq.blk_cell HB2.out.rs 1
  have r2 := Kq.blk_cell HB2.out.rs 2
  have r3 := Kq.blk_cell HB2.out.rs 3
  have g0 := Kq.blk_free HB2.out.rs 0
  have g1 := Kq.blk_free HB2.out.rs 1
  have g2 := Kq.blk_free HB2.out.rs 2
  have g3 := Kq.blk_free HB2.out.rs 3
  go_wp2
  obtain ⟨q1, q2, q3⟩ := HB2.out.fill 0 0 0 ⟨#[]⟩
  change bodyPost _ _ _ _ _ (fillW w2 (Y + 1) 0 0 0 ⟨#[]⟩)
  have z0' := Kq.blk_cell q1 0
  have z1' := Kq.blk_cell q1 1
  have z2' := Kq.blk_cell q1 2
  have z3' := Kq.blk_cell q1 3
  generalize fillW w2 (Y + 1) 0 0 0 ⟨#[]⟩ = w9 at *
  refine bodyPost_ret (v := .tuple #[.agg #[.int .i64 0, .int .u64 0, .int .u64 0, .string ⟨#[]⟩], .int .u64 0, .int .i64 er]) (by simp [results, Tryz.results17, go_sem, z0', z1', z2', z3']) rfl ?_
  exact ⟨rfl, q2, q3⟩
set_option maxRecDepth 100000 in
set_option maxHeartbeats 1000000 in
theorem do_k2f {w : World} {O : Nat → Prop} {X : Nat} {c : Nat → ChV} {m : Nat} (id : Int) (h q t : Nat) (d pd : ByteArray) (f : Int) (hT : TwP w O X c) (hk : TwK m c) (hm : m ≤ 400) (ha : CaOk ⟨2, id, h, d, f, q, t, pd, false⟩) (hL : LaidOk w) (hO : ¬ O 1 ∧ ¬ O 0) : Calls Tryz.prog 17 #[.pointer (some ⟨X, 0, none⟩), .agg #[.int .i64 2, .int .i64 id, .int .u64 (h : Int), .string d, .int .i64 f, .int .u64 (q : Int), .int .u64 (t : Int), .string pd, .bool false]] w (StepT w O X (.tuple #[(doP c ⟨2, id, h, d, f, q, t, pd, false⟩).val, .int .u64 (doH c ⟨2, id, h, d, f, q, t, pd, false⟩ : Int), .int .i64 (doE c ⟨2, id, h, d, f, q, t, pd, false⟩)]) (doV c ⟨2, id, h, d, f, q, t, pd, false⟩)) := by
  obtain ⟨B, P, M, hT⟩ := hT
  obtain ⟨s, hs⟩ : ∃ s, s = sideN id := ⟨_, rfl⟩
  obtain ⟨o, ho⟩ : ∃ o, o = 1 - s := ⟨_, rfl⟩
  have hs2 : s < 2 := by rw [hs]; exact sideN_lt id
  obtain ⟨Y, hY⟩ : ∃ Y, Y = w.heap.size := ⟨_, rfl⟩
  obtain ⟨wb, hwb⟩ : ∃ z, z = (w.alloc (.cells #[.int .i64 2, .int .i64 id, .int .u64 (h : Int), .string d, .int .i64 f, .int .u64 (q : Int), .int .u64 (t : Int), .string pd, .bool false] 50)).alloc (.cells #[.int .i64 0, .int .u64 0, .int .u64 0, .string ⟨#[]⟩] 46) := ⟨_, rfl⟩
  have HB0 : Hid (DoS Y w O O X c ⟨2, id, h, d, f, q, t, pd, false⟩ B P M wb) := Lib.hid (by rw [hwb, hY]; exact DoS.start hT ⟨2, id, h, d, f, q, t, pd, false⟩)
  have HSD := Lib.hid (fun (z : World) (n : Nat) => Calls.quiet_of_same (side_one id (z.drewN n)))
  rw [← hs] at HSD
  have hw1 : IntKind.i64.wrap (1 - (s : Int)) = (o : Int) := by rw [IntWalk.i64_in _ (by omega)]; omega
  have i1 : (s : Int) < 2 := by omega
  have i2 : (o : Int) < 2 := by omega
  have HSO : Hid (s < 2 ∧ o < 2 ∧ CaV.s ⟨2, id, h, d, f, q, t, pd, false⟩ = s ∧ CaV.o ⟨2, id, h, d, f, q, t, pd, false⟩ = o) := Lib.hid ⟨hs2, by omega, hs.symm, by show 1 - sideN id = o; rw [ho, hs]⟩
  have HOK := Lib.hid (And.intro (hk s hs2) (And.intro (hk o (by omega)) (And.intro hm (And.intro ha (And.intro hL (And.intro hO (CaV.pr_size hk hm ha)))))))
  have HYW := Lib.hid hY
  clear hT hk hm ha hL hO hs ho hs2
  have e0 := HSO.out.2.2.1
  have e1 := HSO.out.2.2.2
  obtain ⟨pr, hpr⟩ : ∃ pr, pr = CaV.pr ⟨2, id, h, d, f, q, t, pd, false⟩ c := ⟨_, rfl⟩
  have hprs : pr.size ≤ 2000 := by rw [hpr]; exact HOK.out.2.2.2.2.2.2
  have v1 : doV c ⟨2, id, h, d, f, q, t, pd, false⟩ = updF c s (recvC (c s) f q t pd pr h) := by unfold doV doC; rw [e0, if_neg (by simp), if_neg (by simp), if_pos rfl, hpr]
  have v2 : doP c ⟨2, id, h, d, f, q, t, pd, false⟩ = zeroPk := by unfold doP; rw [if_neg (by simp)]
  have v3 : doH c ⟨2, id, h, d, f, q, t, pd, false⟩ = 0 := rfl
  have v4 : doE c ⟨2, id, h, d, f, q, t, pd, false⟩ = firstE (recvE (c s) f q t pd pr h) := by unfold doE; rw [e0, if_neg (by simp), if_neg (by simp), if_pos rfl, hpr]
  rw [v1, v2, v3, v4]
  have HRV := Lib.hid (fun z hc hL h1 h2 => cn_recv (w := z) (O := P s) (B := B s) (c := c s) f q t pd pr h hc HOK.out.1.ok HOK.out.2.2.2.1.q HOK.out.2.2.2.1.t HOK.out.2.2.2.1.h (by have h1 : pd.size ≤ 300 := HOK.out.2.2.2.1.pd; unfold maxLen; omega) (by omega) hL ⟨h1, h2⟩)
  obtain ⟨er, her⟩ : ∃ er, er = firstE (recvE (c s) f q t pd pr h) := ⟨_, rfl⟩
  rw [← her] at HRV ⊢
  generalize recvC (c s) f q t pd pr h = c' at *
  have HZ : Hid (zeroPk.val = .agg #[.int .i64 0, .int .u64 0, .int .u64 0, .string ⟨#[]⟩]) := Lib.hid rfl
  rw [HZ.out]
  have HPR : Hid (pr = (proveV (c o).st (CaV.key ⟨2, id, h, d, f, q, t, pd, false⟩) h).1) := Lib.hid (by rw [hpr]; unfold CaV.pr; rw [if_pos ⟨rfl, by simp, by simp⟩, e1])
  have HPV := Lib.hid (fun z hc hL => cn_prove (w := z) (O := P o) (B := B o) (c := c o) (CaV.key ⟨2, id, h, d, f, q, t, pd, false⟩) h hc HOK.out.2.1.ok HOK.out.2.2.2.1.h (fun l hl => by have := HOK.out.2.1.bl l hl; have := HOK.out.2.2.1; omega) hL)
  have HKY := Lib.hid (fun z => act_key ⟨2, id, h, d, f, q, t, pd, false⟩ z HOK.out.2.2.2.1.q)
  rw [← HPR.out] at HPV
  generalize (proveV (c o).st (CaV.key ⟨2, id, h, d, f, q, t, pd, false⟩) h).2 = ep at *
  generalize CaV.key ⟨2, id, h, d, f, q, t, pd, false⟩ = key at *
  clear v1 v2 v3 v4 e0 e1 HZ hpr her hprs HPR
  have HPO : Hid (∀ k j, k < 2 → P k j → O j) := Lib.hid (fun k j hk hj => (HB0.out.tw.sub k j hk hj).1)
  go_enter Tryz.func17, Tryz.ntmps17
  go_wp2
  rw [← hwb, ← hY]
  clear hwb hY
  have a1 := Kq.blk_cell HB0.out.bx 1
  simp only [CaV.cells] at a1
  have x1 := HB0.out.tw.cell s HSO.out.1
  have x2 := HB0.out.tw.cell o HSO.out.2.1
  go_quiet ((first | (go_at_call 20; exact HSD.out _ _)))
  generalize hwq : wb.drewN nq = wq
  have HB1 : Hid (DoS Y w O O X c ⟨2, id, h, d, f, q, t, pd, false⟩ B P M wq) := Lib.hid (by rw [← hwq]; exact HB0.out.below (below_drewN (Below.refl _ _) nq))
  have HLD : Hid (LaidOk wq) := Lib.hid (HOK.out.2.2.2.2.1.keeps HB1.out.kp HOK.out.2.2.2.2.2.1.1 HOK.out.2.2.2.2.2.1.2)
  clear hwq HB0 a1 x1 x2 HSD hw1 i1 i2 nq
  have a0 := Kq.blk_cell HB1.out.bx 0
  have a2 := Kq.blk_cell HB1.out.bx 2
  have a3 := Kq.blk_cell HB1.out.bx 3
  have a4 := Kq.blk_cell HB1.out.bx 4
  have a5 := Kq.blk_cell HB1.out.bx 5
  have a6 := Kq.blk_cell HB1.out.bx 6
  have a7 := Kq.blk_cell HB1.out.bx 7
  have a8 := Kq.blk_cell HB1.out.bx 8
  simp only [CaV.cells] at a0 a2 a3 a4 a5 a6 a7 a8
  have HCB : Hid (∀ w', DoS Y w O O X c ⟨2, id, h, d, f, q, t, pd, false⟩ B P M w' → (w'.cell? ⟨Y, 0, none⟩ = some (.int .i64 2) ∧ w'.cell? ⟨Y, 1, none⟩ = some (.int .i64 id) ∧ w'.cell? ⟨Y, 2, none⟩ = some (.int .u64 (h : Int)) ∧ w'.cell? ⟨Y, 3, none⟩ = some (.string d) ∧ w'.cell? ⟨Y, 4, none⟩ = some (.int .i64 f) ∧ w'.cell? ⟨Y, 5, none⟩ = some (.int .u64 (q : Int)) ∧ w'.cell? ⟨Y, 6, none⟩ = some (.int .u64 (t : Int)) ∧ w'.cell? ⟨Y, 7, none⟩ = some (.string pd) ∧ w'.cell? ⟨Y, 8, none⟩ = some (.bool false))) := Lib.hid (fun w' hd => ⟨Kq.blk_cell hd.bx 0, Kq.blk_cell hd.bx 1, Kq.blk_cell hd.bx 2, Kq.blk_cell hd.bx 3, Kq.blk_cell hd.bx 4, Kq.blk_cell hd.bx 5, Kq.blk_cell hd.bx 6, Kq.blk_cell hd.bx 7, Kq.blk_cell hd.bx 8⟩)
  go_wp2
  refine wp_region_held_drew (S := fun w' => w'.cell? ⟨Y, 0, none⟩ = some (.int .i64 2) ∧ w'.cell? ⟨Y, 1, none⟩ = some (.int .i64 id) ∧ w'.cell? ⟨Y, 2, none⟩ = some (.int .u64 (h : Int)) ∧ w'.cell? ⟨Y, 3, none⟩ = some (.string d) ∧ w'.cell? ⟨Y, 4, none⟩ = some (.int .i64 f) ∧ w'.cell? ⟨Y, 5, none⟩ = some (.int .u64 (q : Int)) ∧ w'.cell? ⟨Y, 6, none⟩ = some (.int .u64 (t : Int)) ∧ w'.cell? ⟨Y, 7, none⟩ = some (.string pd) ∧ w'.cell? ⟨Y, 8, none⟩ = some (.bool false)) (by kernel_rfl) (HCB.out _ (HB1.out.below (Below.refl _ _).drew)) (fun hS0 => ?_)
  have HB2 : Hid (DoS Y w O O X c ⟨2, id, h, d, f, q, t, pd, false⟩ B P M wq.drew ∧ LaidOk wq.drew) := Lib.hid ⟨HB1.out.below (Below.refl _ _).drew, HLD.out.later (Below.refl _ _).drew⟩
  generalize wq.drew = z0 at *
  clear HB1 HLD a0 a2 a3 a4 a5 a6 a7 a8
  refine wpAnyH_take (i := 0) (v := ?_) rfl (by kernel_rfl) (by kernel_rfl) (by kernel_rfl) (fun _ _ _ h => h) (Or.inl ⟨by kernel_rfl, ?_⟩) (by assumption) ?_
  rotate_left
  · intro w hSw; (try dsimp only at hSw); go_simp; (try with_reducible rfl)
  refine wpAnyH_take (i := 1) (v := ?_) rfl (by kernel_rfl) (by kernel_rfl) (by kernel_rfl) (fun _ _ _ h => h) (Or.inl ⟨by kernel_rfl, ?_⟩) (by assumption) ?_
  rotate_left
  · intro w hSw; (try dsimp only at hSw); go_simp; (try with_reducible rfl)
  refine wpAnyH_take (i := 3) (v := ?_) rfl (by kernel_rfl) (by kernel_rfl) (by kernel_rfl) (fun _ _ _ h => h) (Or.inl ⟨by kernel_rfl, ?_⟩) (by assumption) ?_
  rotate_left
  · intro w hSw; (try dsimp only at hSw); go_simp; (try with_reducible rfl)
  refine wpAnyH_take (i := 4) (v := ?_) rfl (by kernel_rfl) (by kernel_rfl) (by kernel_rfl) (fun _ _ _ h => h) (Or.inl ⟨by kernel_rfl, ?_⟩) (by assumption) ?_
  rotate_left
  · intro w hSw; (try dsimp only at hSw); go_simp; (try with_reducible rfl)
  refine wpAnyH_ready (rs := [2]) (by kernel_rfl) (by simp) ?_
  refine AllReadyH.cons rfl (fun K hK => ?_) AllReadyH.nil
  go_simp
  refine (HKY.out z0).mono ?_
  rintro x z1 ⟨rfl, b1⟩
  have HB3 : Hid (DoS Y w O O X c ⟨2, id, h, d, f, q, t, pd, false⟩ B P M z1 ∧ LaidOk z1) := Lib.hid ⟨HB2.out.1.below b1, HB2.out.2.later b1⟩
  clear b1 HB2 hS0
  refine hK.out _ _ (HCB.out _ HB3.out.1) (fun hS0 => ?_)
  clear hK K
  refine wpAnyH_ready (rs := [5]) (by kernel_rfl) (by simp) ?_
  refine AllReadyH.cons rfl (fun K hK => ?_) AllReadyH.nil
  go_simp
  refine (HPV.out z1 (HB3.out.1.tw.ch o HSO.out.2.1) HB3.out.2).mono ?_
  rintro x z2 ⟨rfl, b1⟩
  have HB1 : Hid (DoS Y w O O X c ⟨2, id, h, d, f, q, t, pd, false⟩ B P M z2) := Lib.hid (HB3.out.1.below b1)
  have HLD : Hid (LaidOk z2) := Lib.hid (HB3.out.2.later b1)
  clear b1 HB3 hS0
  refine hK.out _ _ (HCB.out _ HB1.out) (fun hS0 => ?_)
  clear hK K
  refine wpAnyH_take (i := 6) (v := ?_) rfl (by kernel_rfl) (by kernel_rfl) (by kernel_rfl) (fun _ _ _ h => h) (Or.inl ⟨by kernel_rfl, ?_⟩) (by assumption) ?_
  rotate_left
  · intro w hSw; (try dsimp only at hSw); go_simp; (try with_reducible rfl)
  refine wpAnyH_take (i := 7) (v := ?_) rfl (by kernel_rfl) (by kernel_rfl) (by kernel_rfl) (fun _ _ _ h => h) (Or.inl ⟨by kernel_rfl, ?_⟩) (by assumption) ?_
  rotate_left
  · intro w hSw; (try dsimp only at hSw); go_simp; (try with_reducible rfl)
  refine wpAnyH_take (i := 8) (v := ?_) rfl (by kernel_rfl) (by kernel_rfl) (by kernel_rfl) (fun _ _ _ h => h) (Or.inl ⟨by kernel_rfl, ?_⟩) (by assumption) ?_
  rotate_left
  · intro w hSw; (try dsimp only at hSw); go_simp; (try with_reducible rfl)
  refine wpAnyH_take (i := 9) (v := ?_) rfl (by kernel_rfl) (by kernel_rfl) (by kernel_rfl) (fun _ _ _ h => h) (Or.inl ⟨by kernel_rfl, ?_⟩) (by assumption) ?_
  rotate_left
  · intro w hSw; (try dsimp only at hSw); go_simp; (try with_reducible rfl)
  refine wpAnyH_done (by kernel_rfl) ?_ _
  clear hS0 HCB
  have a0 := Kq.blk_cell HB1.out.bx 0
  have a2 := Kq.blk_cell HB1.out.bx 2
  have a3 := Kq.blk_cell HB1.out.bx 3
  have a4 := Kq.blk_cell HB1.out.bx 4
  have a5 := Kq.blk_cell HB1.out.bx 5
  have a6 := Kq.blk_cell HB1.out.bx 6
  have a7 := Kq.blk_cell HB1.out.bx 7
  have a8 := Kq.blk_cell HB1.out.bx 8
  simp only [CaV.cells] at a0 a2 a3 a4 a5 a6 a7 a8
  go_wp2_with fail
  refine (HRV.out z2 (HB1.out.tw.ch s HSO.out.1) HLD.out (fun e => HOK.out.2.2.2.2.2.1.1 (HPO.out s _ HSO.out.1 e)) (fun e => HOK.out.2.2.2.2.2.1.2 (HPO.out s _ HSO.out.1 e))).mono ?_
  rintro x w2 hst
  have hx := hst.1
  subst hx
  have HB2 := Lib.hid (HB1.out.step HSO.out.1 hst)
  clear hst HB1 HLD a0 a2 a3 a4 a5 a6 a7 a8
  have r0 := Kq.blk_cell HB2.out.rs 0
  have r1 := Kq.blk_cell HB2.out.rs 1
  have r2 := Kq.blk_cell HB2.out.rs 2
  have r3 := Kq.blk_cell HB2.out.rs 3
  have g0 := Kq.blk_free HB2.out.rs 0
  have g1 := Kq.blk_free HB2.out.rs 1
  have g2 := Kq.blk_free HB2.out.rs 2
  have g3 := Kq.blk_free HB2.out.rs 3
  go_wp2
  obtain ⟨q1, q2, q3⟩ := HB2.out.fill 0 0 0 ⟨#[]⟩
  change bodyPost _ _ _ _ _ (fillW w2 (Y + 1) 0 0 0 ⟨#[]⟩)
  have z0' := Kq.blk_cell q1 0
  have z1' := Kq.blk_cell q1 1
  have z2' := Kq.blk_cell q1 2
  have z3' := Kq.blk_cell q1 3
  generalize fillW w2 (Y + 1) 0 0 0 ⟨#[]⟩ = w9 at *
  refine bodyPost_ret (v := .tuple #[.agg #[.int .i64 0, .int .u64 0, .int .u64 0, .string ⟨#[]⟩], .int .u64 0, .int .i64 er]) (by simp [results, Tryz.results17, go_sem, z0', z1', z2', z3']) rfl ?_
  exact ⟨rfl, q2, q3⟩
end Go.Proofs.YtbjchfcoacmaaaaGreatDoor
namespace Go.Proofs.YtbjchfcoacmaaaaGreatDoor
open Go.RowKit
set_option linter.unusedVariables false
set_option maxRecDepth 100000 in
set_option maxHeartbeats 1000000 in
theorem do_k5t {w : World} {O : Nat → Prop} {X : Nat} {c : Nat → ChV} {m : Nat} (id : Int) (h q t : Nat) (d pd : ByteArray) (f : Int) (hT : TwP w O X c) (hk : TwK m c) (hm : m ≤ 400) (ha : CaOk ⟨5, id, h, d, f, q, t, pd, true⟩) (hL : LaidOk w) (hO : ¬ O 1 ∧ ¬ O 0) : Calls Tryz.prog 17 #[.pointer (some ⟨X, 0, none⟩), .agg #[.int .i64 5, .int .i64 id, .int .u64 (h : Int), .string d, .int .i64 f, .int .u64 (q : Int), .int .u64 (t : Int), .string pd, .bool true]] w (StepT w O X (.tuple #[(doP c ⟨5, id, h, d, f, q, t, pd, true⟩).val, .int .u64 (doH c ⟨5, id, h, d, f, q, t, pd, true⟩ : Int), .int .i64 (doE c ⟨5, id, h, d, f, q, t, pd, true⟩)]) (doV c ⟨5, id, h, d, f, q, t, pd, true⟩)) := by
  obtain ⟨B, P, M, hT⟩ := hT
  obtain ⟨s, hs⟩ : ∃ s, s = sideN id := ⟨_, rfl⟩
  obtain ⟨o, ho⟩ : ∃ o, o = 1 - s := ⟨_, rfl⟩
  have hs2 : s < 2 := by rw [hs]; exact sideN_lt id
  obtain ⟨Y, hY⟩ : ∃ Y, Y = w.heap.size := ⟨_, rfl⟩
  obtain ⟨wb, hwb⟩ : ∃ z, z = (w.alloc (.cells #[.int .i64 5, .int .i64 id, .int .u64 (h : Int), .string d, .int .i64 f, .int .u64 (q : Int), .int .u64 (t : Int), .string pd, .bool true] 50)).alloc (.cells #[.int .i64 0, .int .u64 0, .int .u64 0, .string ⟨#[]⟩] 46) := ⟨_, rfl⟩
  have HB0 : Hid (DoS Y w O O X c ⟨5, id, h, d, f, q, t, pd, true⟩ B P M wb) := Lib.hid (by rw [hwb, hY]; exact DoS.start hT ⟨5, id, h, d, f, q, t, pd, true⟩)
  have HSD := Lib.hid (fun (z : World) (n : Nat) => Calls.quiet_of_same (side_one id (z.drewN n)))
  rw [← hs] at HSD
  have hw1 : IntKind.i64.wrap (1 - (s : Int)) = (o : Int) := by rw [IntWalk.i64_in _ (by omega)]; omega
  have i1 : (s : Int) < 2 := by omega
  have i2 : (o : Int) < 2 := by omega
  have HSO : Hid (s < 2 ∧ o < 2 ∧ CaV.s ⟨5, id, h, d, f, q, t, pd, true⟩ = s ∧ CaV.o ⟨5, id, h, d, f, q, t, pd, true⟩ = o) := Lib.hid ⟨hs2, by omega, hs.symm, by show 1 - sideN id = o; rw [ho, hs]⟩
  have HOK := Lib.hid (And.intro (hk s hs2) (And.intro (hk o (by omega)) (And.intro hm (And.intro ha (And.intro hL (And.intro hO (CaV.pr_size hk hm ha)))))))
  have HYW := Lib.hid hY
  clear hT hk hm ha hL hO hs ho hs2
  have e0 := HSO.out.2.2.1
  have v1 : doV c ⟨5, id, h, d, f, q, t, pd, true⟩ = updF c s (comC (c s)) := by unfold doV doC; rw [e0, if_neg (by simp), if_neg (by simp), if_neg (by simp), if_neg (by simp), if_neg (by simp), if_pos rfl]
  have v2 : doP c ⟨5, id, h, d, f, q, t, pd, true⟩ = zeroPk := by unfold doP; rw [if_neg (by simp)]
  have v3 : doH c ⟨5, id, h, d, f, q, t, pd, true⟩ = (comV (c s).st).2.1 := by unfold doH; rw [if_pos rfl, e0]
  have v4 : doE c ⟨5, id, h, d, f, q, t, pd, true⟩ = (comV (c s).st).2.2 := by unfold doE; rw [e0, if_neg (by simp), if_neg (by simp), if_neg (by simp), if_neg (by simp), if_neg (by simp), if_pos rfl]
  rw [v1, v2, v3, v4]
  have hcr : comR (c s).st = .tuple #[.int .u64 ((comV (c s).st).2.1 : Int), .int .i64 (comV (c s).st).2.2] := rfl
  have HCM := Lib.hid (fun z hc => cn_com (w := z) (O := P s) (B := B s) (c := c s) hc HOK.out.1.ok (by have := HOK.out.1.nb; have := HOK.out.2.2.1; omega))
  rw [hcr] at HCM
  generalize ((comV (c s).st).2.1 : Int) = hn at *
  generalize (comV (c s).st).2.2 = er at *
  generalize comC (c s) = c' at *
  have HZ : Hid (zeroPk.val = .agg #[.int .i64 0, .int .u64 0, .int .u64 0, .string ⟨#[]⟩]) := Lib.hid rfl
  rw [HZ.out]
  clear v1 v2 v3 v4 e0 HZ hcr
  go_enter Tryz.func17, Tryz.ntmps17
  go_wp2
  rw [← hwb, ← hY]
  clear hwb hY
  have a1 := Kq.blk_cell HB0.out.bx 1
  simp only [CaV.cells] at a1
  have x1 := HB0.out.tw.cell s HSO.out.1
  have x2 := HB0.out.tw.cell o HSO.out.2.1
  go_quiet ((first | (go_at_call 20; exact HSD.out _ _)))
  generalize hwq : wb.drewN nq = wq
  have HB1 : Hid (DoS Y w O O X c ⟨5, id, h, d, f, q, t, pd, true⟩ B P M wq) := Lib.hid (by rw [← hwq]; exact HB0.out.below (below_drewN (Below.refl _ _) nq))
  have HLD : Hid (LaidOk wq) := Lib.hid (HOK.out.2.2.2.2.1.keeps HB1.out.kp HOK.out.2.2.2.2.2.1.1 HOK.out.2.2.2.2.2.1.2)
  clear hwq HB0 a1 x1 x2 HSD hw1 i1 i2 nq
  have a0 := Kq.blk_cell HB1.out.bx 0
  have a2 := Kq.blk_cell HB1.out.bx 2
  have a3 := Kq.blk_cell HB1.out.bx 3
  have a4 := Kq.blk_cell HB1.out.bx 4
  have a5 := Kq.blk_cell HB1.out.bx 5
  have a6 := Kq.blk_cell HB1.out.bx 6
  have a7 := Kq.blk_cell HB1.out.bx 7
  have a8 := Kq.blk_cell HB1.out.bx 8
  simp only [CaV.cells] at a0 a2 a3 a4 a5 a6 a7 a8
  go_wp2_with fail
  refine (HCM.out wq (HB1.out.tw.ch s HSO.out.1)).mono ?_
  rintro x w2 hst
  have hx := hst.1
  subst hx
  have HB2 := Lib.hid (HB1.out.step HSO.out.1 hst)
  clear hst HB1 HLD a0 a2 a3 a4 a5 a6 a7 a8
  have r0 := Kq.blk_cell HB2.out.rs 0
  have r1 := Kq.blk_cell HB2.out.rs 1
  have r2 := Kq.blk_cell HB2.out.rs 2
  have r3 := Kq.blk_cell HB2.out.rs 3
  have g0 := Kq.blk_free HB2.out.rs 0
  have g1 := Kq.blk_free HB2.out.rs 1
  have g2 := Kq.blk_free HB2.out.rs 2
  have g3 := Kq.blk_free HB2.out.rs 3
  go_wp2
  obtain ⟨q1, q2, q3⟩ := HB2.out.fill 0 0 0 ⟨#[]⟩
  change bodyPost _ _ _ _ _ (fillW w2 (Y + 1) 0 0 0 ⟨#[]⟩)
  have z0' := Kq.blk_cell q1 0
  have z1' := Kq.blk_cell q1 1
  have z2' := Kq.blk_cell q1 2
  have z3' := Kq.blk_cell q1 3
  generalize fillW w2 (Y + 1) 0 0 0 ⟨#[]⟩ = w9 at *
  refine bodyPost_ret (v := .tuple #[.agg #[.int .i64 0, .int .u64 0, .int .u64 0, .string ⟨#[]⟩], .int .u64 hn, .int .i64 er]) (by simp [results, Tryz.results17, go_sem, z0', z1', z2', z3']) rfl ?_
  exact ⟨rfl, q2, q3⟩
set_option maxRecDepth 100000 in
set_option maxHeartbeats 1000000 in
theorem do_k5f {w : World} {O : Nat → Prop} {X : Nat} {c : Nat → ChV} {m : Nat} (id : Int) (h q t : Nat) (d pd : ByteArray) (f : Int) (hT : TwP w O X c) (hk : TwK m c) (hm : m ≤ 400) (ha : CaOk ⟨5, id, h, d, f, q, t, pd, false⟩) (hL : LaidOk w) (hO : ¬ O 1 ∧ ¬ O 0) : Calls Tryz.prog 17 #[.pointer (some ⟨X, 0, none⟩), .agg #[.int .i64 5, .int .i64 id, .int .u64 (h : Int), .string d, .int .i64 f, .int .u64 (q : Int), .int .u64 (t : Int), .string pd, .bool false]] w (StepT w O X (.tuple #[(doP c ⟨5, id, h, d, f, q, t, pd, false⟩).val, .int .u64 (doH c ⟨5, id, h, d, f, q, t, pd, false⟩ : Int), .int .i64 (doE c ⟨5, id, h, d, f, q, t, pd, false⟩)]) (doV c ⟨5, id, h, d, f, q, t, pd, false⟩)) := by
  obtain ⟨B, P, M, hT⟩ := hT
  obtain ⟨s, hs⟩ : ∃ s, s = sideN id := ⟨_, rfl⟩
  obtain ⟨o, ho⟩ : ∃ o, o = 1 - s := ⟨_, rfl⟩
  have hs2 : s < 2 := by rw [hs]; exact sideN_lt id
  obtain ⟨Y, hY⟩ : ∃ Y, Y = w.heap.size := ⟨_, rfl⟩
  obtain ⟨wb, hwb⟩ : ∃ z, z = (w.alloc (.cells #[.int .i64 5, .int .i64 id, .int .u64 (h : Int), .string d, .int .i64 f, .int .u64 (q : Int), .int .u64 (t : Int), .string pd, .bool false] 50)).alloc (.cells #[.int .i64 0, .int .u64 0, .int .u64 0, .string ⟨#[]⟩] 46) := ⟨_, rfl⟩
  have HB0 : Hid (DoS Y w O O X c ⟨5, id, h, d, f, q, t, pd, false⟩ B P M wb) := Lib.hid (by rw [hwb, hY]; exact DoS.start hT ⟨5, id, h, d, f, q, t, pd, false⟩)
  have HSD := Lib.hid (fun (z : World) (n : Nat) => Calls.quiet_of_same (side_one id (z.drewN n)))
  rw [← hs] at HSD
  have hw1 : IntKind.i64.wrap (1 - (s : Int)) = (o : Int) := by rw [IntWalk.i64_in _ (by omega)]; omega
  have i1 : (s : Int) < 2 := by omega
  have i2 : (o : Int) < 2 := by omega
  have HSO : Hid (s < 2 ∧ o < 2 ∧ CaV.s ⟨5, id, h, d, f, q, t, pd, false⟩ = s ∧ CaV.o ⟨5, id, h, d, f, q, t, pd, false⟩ = o) := Lib.hid ⟨hs2, by omega, hs.symm, by show 1 - sideN id = o; rw [ho, hs]⟩
  have HOK := Lib.hid (And.intro (hk s hs2) (And.intro (hk o (by omega)) (And.intro hm (And.intro ha (And.intro hL (And.intro hO (CaV.pr_size hk hm ha)))))))
  have HYW := Lib.hid hY
  clear hT hk hm ha hL hO hs ho hs2
  have e0 := HSO.out.2.2.1
  have v1 : doV c ⟨5, id, h, d, f, q, t, pd, false⟩ = updF c s (comC (c s)) := by unfold doV doC; rw [e0, if_neg (by simp), if_neg (by simp), if_neg (by simp), if_neg (by simp), if_neg (by simp), if_pos rfl]
  have v2 : doP c ⟨5, id, h, d, f, q, t, pd, false⟩ = zeroPk := by unfold doP; rw [if_neg (by simp)]
  have v3 : doH c ⟨5, id, h, d, f, q, t, pd, false⟩ = (comV (c s).st).2.1 := by unfold doH; rw [if_pos rfl, e0]
  have v4 : doE c ⟨5, id, h, d, f, q, t, pd, false⟩ = (comV (c s).st).2.2 := by unfold doE; rw [e0, if_neg (by simp), if_neg (by simp), if_neg (by simp), if_neg (by simp), if_neg (by simp), if_pos rfl]
  rw [v1, v2, v3, v4]
  have hcr : comR (c s).st = .tuple #[.int .u64 ((comV (c s).st).2.1 : Int), .int .i64 (comV (c s).st).2.2] := rfl
  have HCM := Lib.hid (fun z hc => cn_com (w := z) (O := P s) (B := B s) (c := c s) hc HOK.out.1.ok (by have := HOK.out.1.nb; have := HOK.out.2.2.1; omega))
  rw [hcr] at HCM
  generalize ((comV (c s).st).2.1 : Int) = hn at *
  generalize (comV (c s).st).2.2 = er at *
  generalize comC (c s) = c' at *
  have HZ : Hid (zeroPk.val = .agg #[.int .i64 0, .int .u64 0, .int .u64 0, .string ⟨#[]⟩]) := Lib.hid rfl
  rw [HZ.out]
  clear v1 v2 v3 v4 e0 HZ hcr
  go_enter Tryz.func17, Tryz.ntmps17
  go_wp2
  rw [← hwb, ← hY]
  clear hwb hY
  have a1 := Kq.blk_cell HB0.out.bx 1
  simp only [CaV.cells] at a1
  have x1 := HB0.out.tw.cell s HSO.out.1
  have x2 := HB0.out.tw.cell o HSO.out.2.1
  go_quiet ((first | (go_at_call 20; exact HSD.out _ _)))
  generalize hwq : wb.drewN nq = wq
  have HB1 : Hid (DoS Y w O O X c ⟨5, id, h, d, f, q, t, pd, false⟩ B P M wq) := Lib.hid (by rw [← hwq]; exact HB0.out.below (below_drewN (Below.refl _ _) nq))
  have HLD : Hid (LaidOk wq) := Lib.hid (HOK.out.2.2.2.2.1.keeps HB1.out.kp HOK.out.2.2.2.2.2.1.1 HOK.out.2.2.2.2.2.1.2)
  clear hwq HB0 a1 x1 x2 HSD hw1 i1 i2 nq
  have a0 := Kq.blk_cell HB1.out.bx 0
  have a2 := Kq.blk_cell HB1.out.bx 2
  have a3 := Kq.blk_cell HB1.out.bx 3
  have a4 := Kq.blk_cell HB1.out.bx 4
  have a5 := Kq.blk_cell HB1.out.bx 5
  have a6 := Kq.blk_cell HB1.out.bx 6
  have a7 := Kq.blk_cell HB1.out.bx 7
  have a8 := Kq.blk_cell HB1.out.bx 8
  simp only [CaV.cells] at a0 a2 a3 a4 a5 a6 a7 a8
  go_wp2_with fail
  refine (HCM.out wq (HB1.out.tw.ch s HSO.out.1)).mono ?_
  rintro x w2 hst
  have hx := hst.1
  subst hx
  have HB2 := Lib.hid (HB1.out.step HSO.out.1 hst)
  clear hst HB1 HLD a0 a2 a3 a4 a5 a6 a7 a8
  have r0 := Kq.blk_cell HB2.out.rs 0
  have r1 := Kq.blk_cell HB2.out.rs 1
  have r2 := Kq.blk_cell HB2.out.rs 2
  have r3 := Kq.blk_cell HB2.out.rs 3
  have g0 := Kq.blk_free HB2.out.rs 0
  have g1 := Kq.blk_free HB2.out.rs 1
  have g2 := Kq.blk_free HB2.out.rs 2
  have g3 := Kq.blk_free HB2.out.rs 3
  go_wp2
  obtain ⟨q1, q2, q3⟩ := HB2.out.fill 0 0 0 ⟨#[]⟩
  change bodyPost _ _ _ _ _ (fillW w2 (Y + 1) 0 0 0 ⟨#[]⟩)
  have z0' := Kq.blk_cell q1 0
  have z1' := Kq.blk_cell q1 1
  have z2' := Kq.blk_cell q1 2
  have z3' := Kq.blk_cell q1 3
  generalize fillW w2 (Y + 1) 0 0 0 ⟨#[]⟩ = w9 at *
  refine bodyPost_ret (v := .tuple #[.agg #[.int .i64 0, .int .u64 0, .int .u64 0, .string ⟨#[]⟩], .int .u64 hn, .int .i64 er]) (by simp [results, Tryz.results17, go_sem, z0', z1', z2', z3']) rfl ?_
  exact ⟨rfl, q2, q3⟩
set_option maxRecDepth 100000 in
set_option maxHeartbeats 1000000 in
theorem do_kot {w : World} {O : Nat → Prop} {X : Nat} {c : Nat → ChV} {m : Nat} (kd : Int) (id : Int) (h q t : Nat) (d pd : ByteArray) (f : Int) (hn : kd ≠ 0 ∧ kd ≠ 1 ∧ kd ≠ 2 ∧ kd ≠ 3 ∧ kd ≠ 4 ∧ kd ≠ 5) (hT : TwP w O X c) (hk : TwK m c) (hm : m ≤ 400) (ha : CaOk ⟨kd, id, h, d, f, q, t, pd, true⟩) (hL : LaidOk w) (hO : ¬ O 1 ∧ ¬ O 0) : Calls Tryz.prog 17 #[.pointer (some ⟨X, 0, none⟩), .agg #[.int .i64 kd, .int .i64 id, .int .u64 (h : Int), .string d, .int .i64 f, .int .u64 (q : Int), .int .u64 (t : Int), .string pd, .bool true]] w (StepT w O X (.tuple #[(doP c ⟨kd, id, h, d, f, q, t, pd, true⟩).val, .int .u64 (doH c ⟨kd, id, h, d, f, q, t, pd, true⟩ : Int), .int .i64 (doE c ⟨kd, id, h, d, f, q, t, pd, true⟩)]) (doV c ⟨kd, id, h, d, f, q, t, pd, true⟩)) := by
  obtain ⟨B, P, M, hT⟩ := hT
  obtain ⟨s, hs⟩ : ∃ s, s = sideN id := ⟨_, rfl⟩
  obtain ⟨o, ho⟩ : ∃ o, o = 1 - s := ⟨_, rfl⟩
  have hs2 : s < 2 := by rw [hs]; exact sideN_lt id
  obtain ⟨Y, hY⟩ : ∃ Y, Y = w.heap.size := ⟨_, rfl⟩
  obtain ⟨wb, hwb⟩ : ∃ z, z = (w.alloc (.cells #[.int .i64 kd, .int .i64 id, .int .u64 (h : Int), .string d, .int .i64 f, .int .u64 (q : Int), .int .u64 (t : Int), .string pd, .bool true] 50)).alloc (.cells #[.int .i64 0, .int .u64 0, .int .u64 0, .string ⟨#[]⟩] 46) := ⟨_, rfl⟩
  have HB0 : Hid (DoS Y w O O X c ⟨kd, id, h, d, f, q, t, pd, true⟩ B P M wb) := Lib.hid (by rw [hwb, hY]; exact DoS.start hT ⟨kd, id, h, d, f, q, t, pd, true⟩)
  have HSD := Lib.hid (fun (z : World) (n : Nat) => Calls.quiet_of_same (side_one id (z.drewN n)))
  rw [← hs] at HSD
  have hw1 : IntKind.i64.wrap (1 - (s : Int)) = (o : Int) := by rw [IntWalk.i64_in _ (by omega)]; omega
  have i1 : (s : Int) < 2 := by omega
  have i2 : (o : Int) < 2 := by omega
  have HSO : Hid (s < 2 ∧ o < 2 ∧ CaV.s ⟨kd, id, h, d, f, q, t, pd, true⟩ = s ∧ CaV.o ⟨kd, id, h, d, f, q, t, pd, true⟩ = o) := Lib.hid ⟨hs2, by omega, hs.symm, by show 1 - sideN id = o; rw [ho, hs]⟩
  have HOK := Lib.hid (And.intro (hk s hs2) (And.intro (hk o (by omega)) (And.intro hm (And.intro ha (And.intro hL (And.intro hO (CaV.pr_size hk hm ha)))))))
  have HYW := Lib.hid hY
  clear hT hk hm ha hL hO hs ho hs2
  have e0 := HSO.out.2.2.1
  have v1 : doV c ⟨kd, id, h, d, f, q, t, pd, true⟩ = c := by unfold doV doC; rw [if_neg hn.1, if_neg hn.2.1, if_neg hn.2.2.1, if_neg hn.2.2.2.1, if_neg hn.2.2.2.2.1, if_neg hn.2.2.2.2.2, e0, updF_same]
  have v2 : doP c ⟨kd, id, h, d, f, q, t, pd, true⟩ = zeroPk := by unfold doP; rw [if_neg hn.1]
  have v3 : doH c ⟨kd, id, h, d, f, q, t, pd, true⟩ = 0 := by unfold doH; rw [if_neg hn.2.2.2.2.2]
  have v4 : doE c ⟨kd, id, h, d, f, q, t, pd, true⟩ = 0 := by unfold doE; rw [if_neg hn.1, if_neg hn.2.1, if_neg hn.2.2.1, if_neg hn.2.2.2.1, if_neg hn.2.2.2.2.1, if_neg hn.2.2.2.2.2]
  rw [v1, v2, v3, v4]
  have HZ : Hid (zeroPk.val = .agg #[.int .i64 0, .int .u64 0, .int .u64 0, .string ⟨#[]⟩]) := Lib.hid rfl
  rw [HZ.out]
  obtain ⟨n0, n1, n2, n3, n4, n5⟩ := hn
  have d0 : (kd == 0) = false := by rw [beq_eq_false_iff_ne]; exact n0
  have d1 : (kd == 1) = false := by rw [beq_eq_false_iff_ne]; exact n1
  have d2 : (kd == 2) = false := by rw [beq_eq_false_iff_ne]; exact n2
  have d3 : (kd == 3) = false := by rw [beq_eq_false_iff_ne]; exact n3
  have d4 : (kd == 4) = false := by rw [beq_eq_false_iff_ne]; exact n4
  have d5 : (kd == 5) = false := by rw [beq_eq_false_iff_ne]; exact n5
  clear v1 v2 v3 v4 e0 HZ
  go_enter Tryz.func17, Tryz.ntmps17
  go_wp2
  rw [← hwb, ← hY]
  clear hwb hY
  have a1 := Kq.blk_cell HB0.out.bx 1
  simp only [CaV.cells] at a1
  have x1 := HB0.out.tw.cell s HSO.out.1
  have x2 := HB0.out.tw.cell o HSO.out.2.1
  go_quiet ((first | (go_at_call 20; exact HSD.out _ _)))
  generalize hwq : wb.drewN nq = wq
  have HB1 : Hid (DoS Y w O O X c ⟨kd, id, h, d, f, q, t, pd, true⟩ B P M wq) := Lib.hid (by rw [← hwq]; exact HB0.out.below (below_drewN (Below.refl _ _) nq))
  have HLD : Hid (LaidOk wq) := Lib.hid (HOK.out.2.2.2.2.1.keeps HB1.out.kp HOK.out.2.2.2.2.2.1.1 HOK.out.2.2.2.2.2.1.2)
  clear hwq HB0 a1 x1 x2 HSD hw1 i1 i2 nq
  have a0 := Kq.blk_cell HB1.out.bx 0
  have a2 := Kq.blk_cell HB1.out.bx 2
  have a3 := Kq.blk_cell HB1.out.bx 3
  have a4 := Kq.blk_cell HB1.out.bx 4
  have a5 := Kq.blk_cell HB1.out.bx 5
  have a6 := Kq.blk_cell HB1.out.bx 6
  have a7 := Kq.blk_cell HB1.out.bx 7
  have a8 := Kq.blk_cell HB1.out.bx 8
  simp only [CaV.cells] at a0 a2 a3 a4 a5 a6 a7 a8
  clear HLD
  have r0 := Kq.blk_cell HB1.out.rs 0
  have r1 := Kq.blk_cell HB1.out.rs 1
  have r2 := Kq.blk_cell HB1.out.rs 2
  have r3 := Kq.blk_cell HB1.out.rs 3
  have g0 := Kq.blk_free HB1.out.rs 0
  have g1 := Kq.blk_free HB1.out.rs 1
  have g2 := Kq.blk_free HB1.out.rs 2
  have g3 := Kq.blk_free HB1.out.rs 3
  go_wp2
  obtain ⟨q1, q2, q3⟩ := HB1.out.fill 0 0 0 ⟨#[]⟩
  change bodyPost _ _ _ _ _ (fillW wq (Y + 1) 0 0 0 ⟨#[]⟩)
  have z0' := Kq.blk_cell q1 0
  have z1' := Kq.blk_cell q1 1
  have z2' := Kq.blk_cell q1 2
  have z3' := Kq.blk_cell q1 3
  generalize fillW wq (Y + 1) 0 0 0 ⟨#[]⟩ = w9 at *
  refine bodyPost_ret (v := .tuple #[.agg #[.int .i64 0, .int .u64 0, .int .u64 0, .string ⟨#[]⟩], .int .u64 0, .int .i64 0]) (by simp [results, Tryz.results17, go_sem, z0', z1', z2', z3']) rfl ?_
  exact ⟨rfl, q2, q3⟩
set_option maxRecDepth 100000 in
set_option maxHeartbeats 1000000 in
theorem do_kofl {w : World} {O : Nat → Prop} {X : Nat} {c : Nat → ChV} {m : Nat} (kd : Int) (id : Int) (h q t : Nat) (d pd : ByteArray) (f : Int) (hn : kd ≠ 0 ∧ kd ≠ 1 ∧ kd ≠ 2 ∧ kd ≠ 3 ∧ kd ≠ 4 ∧ kd ≠ 5) (hlo : kd < 2) (hT : TwP w O X c) (hk : TwK m c) (hm : m ≤ 400) (ha : CaOk ⟨kd, id, h, d, f, q, t, pd, false⟩) (hL : LaidOk w) (hO : ¬ O 1 ∧ ¬ O 0) : Calls Tryz.prog 17 #[.pointer (some ⟨X, 0, none⟩), .agg #[.int .i64 kd, .int .i64 id, .int .u64 (h : Int), .string d, .int .i64 f, .int .u64 (q : Int), .int .u64 (t : Int), .string pd, .bool false]] w (StepT w O X (.tuple #[(doP c ⟨kd, id, h, d, f, q, t, pd, false⟩).val, .int .u64 (doH c ⟨kd, id, h, d, f, q, t, pd, false⟩ : Int), .int .i64 (doE c ⟨kd, id, h, d, f, q, t, pd, false⟩)]) (doV c ⟨kd, id, h, d, f, q, t, pd, false⟩)) := by
  obtain ⟨B, P, M, hT⟩ := hT
  obtain ⟨s, hs⟩ : ∃ s, s = sideN id := ⟨_, rfl⟩
  obtain ⟨o, ho⟩ : ∃ o, o = 1 - s := ⟨_, rfl⟩
  have hs2 : s < 2 := by rw [hs]; exact sideN_lt id
  obtain ⟨Y, hY⟩ : ∃ Y, Y = w.heap.size := ⟨_, rfl⟩
  obtain ⟨wb, hwb⟩ : ∃ z, z = (w.alloc (.cells #[.int .i64 kd, .int .i64 id, .int .u64 (h : Int), .string d, .int .i64 f, .int .u64 (q : Int), .int .u64 (t : Int), .string pd, .bool false] 50)).alloc (.cells #[.int .i64 0, .int .u64 0, .int .u64 0, .string ⟨#[]⟩] 46) := ⟨_, rfl⟩
  have HB0 : Hid (DoS Y w O O X c ⟨kd, id, h, d, f, q, t, pd, false⟩ B P M wb) := Lib.hid (by rw [hwb, hY]; exact DoS.start hT ⟨kd, id, h, d, f, q, t, pd, false⟩)
  have HSD := Lib.hid (fun (z : World) (n : Nat) => Calls.quiet_of_same (side_one id (z.drewN n)))
  rw [← hs] at HSD
  have hw1 : IntKind.i64.wrap (1 - (s : Int)) = (o : Int) := by rw [IntWalk.i64_in _ (by omega)]; omega
  have i1 : (s : Int) < 2 := by omega
  have i2 : (o : Int) < 2 := by omega
  have HSO : Hid (s < 2 ∧ o < 2 ∧ CaV.s ⟨kd, id, h, d, f, q, t, pd, false⟩ = s ∧ CaV.o ⟨kd, id, h, d, f, q, t, pd, false⟩ = o) := Lib.hid ⟨hs2, by omega, hs.symm, by show 1 - sideN id = o; rw [ho, hs]⟩
  have HOK := Lib.hid (And.intro (hk s hs2) (And.intro (hk o (by omega)) (And.intro hm (And.intro ha (And.intro hL (And.intro hO (CaV.pr_size hk hm ha)))))))
  have HYW := Lib.hid hY
  clear hT hk hm ha hL hO hs ho hs2
  have e0 := HSO.out.2.2.1
  have v1 : doV c ⟨kd, id, h, d, f, q, t, pd, false⟩ = c := by unfold doV doC; rw [if_neg hn.1, if_neg hn.2.1, if_neg hn.2.2.1, if_neg hn.2.2.2.1, if_neg hn.2.2.2.2.1, if_neg hn.2.2.2.2.2, e0, updF_same]
  have v2 : doP c ⟨kd, id, h, d, f, q, t, pd, false⟩ = zeroPk := by unfold doP; rw [if_neg hn.1]
  have v3 : doH c ⟨kd, id, h, d, f, q, t, pd, false⟩ = 0 := by unfold doH; rw [if_neg hn.2.2.2.2.2]
  have v4 : doE c ⟨kd, id, h, d, f, q, t, pd, false⟩ = 0 := by unfold doE; rw [if_neg hn.1, if_neg hn.2.1, if_neg hn.2.2.1, if_neg hn.2.2.2.1, if_neg hn.2.2.2.2.1, if_neg hn.2.2.2.2.2]
  rw [v1, v2, v3, v4]
  have HZ : Hid (zeroPk.val = .agg #[.int .i64 0, .int .u64 0, .int .u64 0, .string ⟨#[]⟩]) := Lib.hid rfl
  rw [HZ.out]
  obtain ⟨n0, n1, n2, n3, n4, n5⟩ := hn
  have d0 : (kd == 0) = false := by rw [beq_eq_false_iff_ne]; exact n0
  have d1 : (kd == 1) = false := by rw [beq_eq_false_iff_ne]; exact n1
  have d2 : (kd == 2) = false := by rw [beq_eq_false_iff_ne]; exact n2
  have d3 : (kd == 3) = false := by rw [beq_eq_false_iff_ne]; exact n3
  have d4 : (kd == 4) = false := by rw [beq_eq_false_iff_ne]; exact n4
  have d5 : (kd == 5) = false := by rw [beq_eq_false_iff_ne]; exact n5
  have g2 : decide (2 ≤ kd) = false := decide_eq_false (by omega)
  have g2' : ¬ 2 ≤ kd := by omega
  clear v1 v2 v3 v4 e0 HZ
  go_enter Tryz.func17, Tryz.ntmps17
  go_wp2
  rw [← hwb, ← hY]
  clear hwb hY
  have a1 := Kq.blk_cell HB0.out.bx 1
  simp only [CaV.cells] at a1
  have x1 := HB0.out.tw.cell s HSO.out.1
  have x2 := HB0.out.tw.cell o HSO.out.2.1
  go_quiet ((first | (go_at_call 20; exact HSD.out _ _)))
  generalize hwq : wb.drewN nq = wq
  have HB1 : Hid (DoS Y w O O X c ⟨kd, id, h, d, f, q, t, pd, false⟩ B P M wq) := Lib.hid (by rw [← hwq]; exact HB0.out.below (below_drewN (Below.refl _ _) nq))
  have HLD : Hid (LaidOk wq) := Lib.hid (HOK.out.2.2.2.2.1.keeps HB1.out.kp HOK.out.2.2.2.2.2.1.1 HOK.out.2.2.2.2.2.1.2)
  clear hwq HB0 a1 x1 x2 HSD hw1 i1 i2 nq
  have a0 := Kq.blk_cell HB1.out.bx 0
  have a2 := Kq.blk_cell HB1.out.bx 2
  have a3 := Kq.blk_cell HB1.out.bx 3
  have a4 := Kq.blk_cell HB1.out.bx 4
  have a5 := Kq.blk_cell HB1.out.bx 5
  have a6 := Kq.blk_cell HB1.out.bx 6
  have a7 := Kq.blk_cell HB1.out.bx 7
  have a8 := Kq.blk_cell HB1.out.bx 8
  simp only [CaV.cells] at a0 a2 a3 a4 a5 a6 a7 a8
  clear HLD
  have r0 := Kq.blk_cell HB1.out.rs 0
  have r1 := Kq.blk_cell HB1.out.rs 1
  have r2 := Kq.blk_cell HB1.out.rs 2
  have r3 := Kq.blk_cell HB1.out.rs 3
  have g0 := Kq.blk_free HB1.out.rs 0
  have g1 := Kq.blk_free HB1.out.rs 1
  have g2 := Kq.blk_free HB1.out.rs 2
  have g3 := Kq.blk_free HB1.out.rs 3
  go_wp2
  obtain ⟨q1, q2, q3⟩ := HB1.out.fill 0 0 0 ⟨#[]⟩
  change bodyPost _ _ _ _ _ (fillW wq (Y + 1) 0 0 0 ⟨#[]⟩)
  have z0' := Kq.blk_cell q1 0
  have z1' := Kq.blk_cell q1 1
  have z2' := Kq.blk_cell q1 2
  have z3' := Kq.blk_cell q1 3
  generalize fillW wq (Y + 1) 0 0 0 ⟨#[]⟩ = w9 at *
  refine bodyPost_ret (v := .tuple #[.agg #[.int .i64 0, .int .u64 0, .int .u64 0, .string ⟨#[]⟩], .int .u64 0, .int .i64 0]) (by simp [results, Tryz.results17, go_sem, z0', z1', z2', z3']) rfl ?_
  exact ⟨rfl, q2, q3⟩
set_option maxRecDepth 100000 in
set_option maxHeartbeats 1000000 in
theorem do_kofh {w : World} {O : Nat → Prop} {X : Nat} {c : Nat → ChV} {m : Nat} (kd : Int) (id : Int) (h q t : Nat) (d pd : ByteArray) (f : Int) (hn : kd ≠ 0 ∧ kd ≠ 1 ∧ kd ≠ 2 ∧ kd ≠ 3 ∧ kd ≠ 4 ∧ kd ≠ 5) (hlo : 4 < kd) (hT : TwP w O X c) (hk : TwK m c) (hm : m ≤ 400) (ha : CaOk ⟨kd, id, h, d, f, q, t, pd, false⟩) (hL : LaidOk w) (hO : ¬ O 1 ∧ ¬ O 0) : Calls Tryz.prog 17 #[.pointer (some ⟨X, 0, none⟩), .agg #[.int .i64 kd, .int .i64 id, .int .u64 (h : Int), .string d, .int .i64 f, .int .u64 (q : Int), .int .u64 (t : Int), .string pd, .bool false]] w (StepT w O X (.tuple #[(doP c ⟨kd, id, h, d, f, q, t, pd, false⟩).val, .int .u64 (doH c ⟨kd, id, h, d, f, q, t, pd, false⟩ : Int), .int .i64 (doE c ⟨kd, id, h, d, f, q, t, pd, false⟩)]) (doV c ⟨kd, id, h, d, f, q, t, pd, false⟩)) := by
  obtain ⟨B, P, M, hT⟩ := hT
  obtain ⟨s, hs⟩ : ∃ s, s = sideN id := ⟨_, rfl⟩
  obtain ⟨o, ho⟩ : ∃ o, o = 1 - s := ⟨_, rfl⟩
  have hs2 : s < 2 := by rw [hs]; exact sideN_lt id
  obtain ⟨Y, hY⟩ : ∃ Y, Y = w.heap.size := ⟨_, rfl⟩
  obtain ⟨wb, hwb⟩ : ∃ z, z = (w.alloc (.cells #[.int .i64 kd, .int .i64 id, .int .u64 (h : Int), .string d, .int .i64 f, .int .u64 (q : Int), .int .u64 (t : Int), .string pd, .bool false] 50)).alloc (.cells #[.int .i64 0, .int .u64 0, .int .u64 0, .string ⟨#[]⟩] 46) := ⟨_, rfl⟩
  have HB0 : Hid (DoS Y w O O X c ⟨kd, id, h, d, f, q, t, pd, false⟩ B P M wb) := Lib.hid (by rw [hwb, hY]; exact DoS.start hT ⟨kd, id, h, d, f, q, t, pd, false⟩)
  have HSD := Lib.hid (fun (z : World) (n : Nat) => Calls.quiet_of_same (side_one id (z.drewN n)))
  rw [← hs] at HSD
  have hw1 : IntKind.i64.wrap (1 - (s : Int)) = (o : Int) := by rw [IntWalk.i64_in _ (by omega)]; omega
  have i1 : (s : Int) < 2 := by omega
  have i2 : (o : Int) < 2 := by omega
  have HSO : Hid (s < 2 ∧ o < 2 ∧ CaV.s ⟨kd, id, h, d, f, q, t, pd, false⟩ = s ∧ CaV.o ⟨kd, id, h, d, f, q, t, pd, false⟩ = o) := Lib.hid ⟨hs2, by omega, hs.symm, by show 1 - sideN id = o; rw [ho, hs]⟩
  have HOK := Lib.hid (And.intro (hk s hs2) (And.intro (hk o (by omega)) (And.intro hm (And.intro ha (And.intro hL (And.intro hO (CaV.pr_size hk hm ha)))))))
  have HYW := Lib.hid hY
  clear hT hk hm ha hL hO hs ho hs2
  have e0 := HSO.out.2.2.1
  have v1 : doV c ⟨kd, id, h, d, f, q, t, pd, false⟩ = c := by unfold doV doC; rw [if_neg hn.1, if_neg hn.2.1, if_neg hn.2.2.1, if_neg hn.2.2.2.1, if_neg hn.2.2.2.2.1, if_neg hn.2.2.2.2.2, e0, updF_same]
  have v2 : doP c ⟨kd, id, h, d, f, q, t, pd, false⟩ = zeroPk := by unfold doP; rw [if_neg hn.1]
  have v3 : doH c ⟨kd, id, h, d, f, q, t, pd, false⟩ = 0 := by unfold doH; rw [if_neg hn.2.2.2.2.2]
  have v4 : doE c ⟨kd, id, h, d, f, q, t, pd, false⟩ = 0 := by unfold doE; rw [if_neg hn.1, if_neg hn.2.1, if_neg hn.2.2.1, if_neg hn.2.2.2.1, if_neg hn.2.2.2.2.1, if_neg hn.2.2.2.2.2]
  rw [v1, v2, v3, v4]
  have HZ : Hid (zeroPk.val = .agg #[.int .i64 0, .int .u64 0, .int .u64 0, .string ⟨#[]⟩]) := Lib.hid rfl
  rw [HZ.out]
  obtain ⟨n0, n1, n2, n3, n4, n5⟩ := hn
  have d0 : (kd == 0) = false := by rw [beq_eq_false_iff_ne]; exact n0
  have d1 : (kd == 1) = false := by rw [beq_eq_false_iff_ne]; exact n1
  have d2 : (kd == 2) = false := by rw [beq_eq_false_iff_ne]; exact n2
  have d3 : (kd == 3) = false := by rw [beq_eq_false_iff_ne]; exact n3
  have d4 : (kd == 4) = false := by rw [beq_eq_false_iff_ne]; exact n4
  have d5 : (kd == 5) = false := by rw [beq_eq_false_iff_ne]; exact n5
  have g2 : decide (2 ≤ kd) = true := decide_eq_true (by omega)
  have g4 : decide (kd ≤ 4) = false := decide_eq_false (by omega)
  clear v1 v2 v3 v4 e0 HZ
  go_enter Tryz.func17, Tryz.ntmps17
  go_wp2
  rw [← hwb, ← hY]
  clear hwb hY
  have a1 := Kq.blk_cell HB0.out.bx 1
  simp only [CaV.cells] at a1
  have x1 := HB0.out.tw.cell s HSO.out.1
  have x2 := HB0.out.tw.cell o HSO.out.2.1
  go_quiet ((first | (go_at_call 20; exact HSD.out _ _)))
  generalize hwq : wb.drewN nq = wq
  have HB1 : Hid (DoS Y w O O X c ⟨kd, id, h, d, f, q, t, pd, false⟩ B P M wq) := Lib.hid (by rw [← hwq]; exact HB0.out.below (below_drewN (Below.refl _ _) nq))
  have HLD : Hid (LaidOk wq) := Lib.hid (HOK.out.2.2.2.2.1.keeps HB1.out.kp HOK.out.2.2.2.2.2.1.1 HOK.out.2.2.2.2.2.1.2)
  clear hwq HB0 a1 x1 x2 HSD hw1 i1 i2 nq
  have a0 := Kq.blk_cell HB1.out.bx 0
  have a2 := Kq.blk_cell HB1.out.bx 2
  have a3 := Kq.blk_cell HB1.out.bx 3
  have a4 := Kq.blk_cell HB1.out.bx 4
  have a5 := Kq.blk_cell HB1.out.bx 5
  have a6 := Kq.blk_cell HB1.out.bx 6
  have a7 := Kq.blk_cell HB1.out.bx 7
  have a8 := Kq.blk_cell HB1.out.bx 8
  simp only [CaV.cells] at a0 a2 a3 a4 a5 a6 a7 a8
  clear HLD
  have r0 := Kq.blk_cell HB1.out.rs 0
  have r1 := Kq.blk_cell HB1.out.rs 1
  have r2 := Kq.blk_cell HB1.out.rs 2
  have r3 := Kq.blk_cell HB1.out.rs 3
  have g0 := Kq.blk_free HB1.out.rs 0
  have g1 := Kq.blk_free HB1.out.rs 1
  have g2 := Kq.blk_free HB1.out.rs 2
  have g3 := Kq.blk_free HB1.out.rs 3
  go_wp2
  obtain ⟨q1, q2, q3⟩ := HB1.out.fill 0 0 0 ⟨#[]⟩
  change bodyPost _ _ _ _ _ (fillW wq (Y + 1) 0 0 0 ⟨#[]⟩)
  have z0' := Kq.blk_cell q1 0
  have z1' := Kq.blk_cell q1 1
  have z2' := Kq.blk_cell q1 2
  have z3' := Kq.blk_cell q1 3
  generalize fillW wq (Y + 1) 0 0 0 ⟨#[]⟩ = w9 at *
  refine bodyPost_ret (v := .tuple #[.agg #[.int .i64 0, .int .u64 0, .int .u64 0, .string ⟨#[]⟩], .int .u64 0, .int .i64 0]) (by simp [results, Tryz.results17, go_sem, z0', z1', z2', z3']) rfl ?_
  exact ⟨rfl, q2, q3⟩
end Go.Proofs.YtbjchfcoacmaaaaGreatDoor
namespace Go.Proofs.YtbjchfcoacmaaaaGreatDoor
open Go.RowKit
set_option linter.unusedVariables false
/-- any call -/
theorem tw_do {w : World} {O : Nat → Prop} {X : Nat} {c : Nat → ChV} {m : Nat} (a : CaV) (hT : TwP w O X c) (hk : TwK m c) (hm : m ≤ 400) (ha : CaOk a) (hL : LaidOk w) (hO : ¬ O 1 ∧ ¬ O 0) : Calls Tryz.prog 17 #[.pointer (some ⟨X, 0, none⟩), .agg #[.int .i64 a.kd, .int .i64 a.id, .int .u64 (a.h : Int), .string a.d, .int .i64 a.f, .int .u64 (a.q : Int), .int .u64 (a.t : Int), .string a.pd, .bool a.sp]] w (StepT w O X (.tuple #[(doP c a).val, .int .u64 (doH c a : Int), .int .i64 (doE c a)]) (doV c a)) := by
  obtain ⟨kd, id, h, d, f, q, t, pd, sp⟩ := a
  by_cases e0 : kd = 0
  · subst e0; cases sp
    · exact do_k0f id h q t d pd f hT hk hm ha hL hO
    · exact do_k0t id h q t d pd f hT hk hm ha hL hO
  by_cases e1 : kd = 1
  · subst e1
    by_cases er : (rootV (c (1 - sideN id)).st h).2 = 0
    · cases sp
      · exact do_k1fy id h q t d pd f (fun o ho => by rw [ho]; exact er) hT hk hm ha hL hO
      · exact do_k1ty id h q t d pd f (fun o ho => by rw [ho]; exact er) hT hk hm ha hL hO
    · cases sp
      · exact do_k1fn id h q t d pd f (fun o ho => by rw [ho]; exact er) hT hk hm ha hL hO
      · exact do_k1tn id h q t d pd f (fun o ho => by rw [ho]; exact er) hT hk hm ha hL hO
  by_cases e2 : kd = 2
  · subst e2; cases sp
    · exact do_k2f id h q t d pd f hT hk hm ha hL hO
    · exact do_k2t id h q t d pd f hT hk hm ha hL hO
  by_cases e3 : kd = 3
  · subst e3; cases sp
    · exact do_k3f id h q t d pd f hT hk hm ha hL hO
    · exact do_k3t id h q t d pd f hT hk hm ha hL hO
  by_cases e4 : kd = 4
  · subst e4; cases sp
    · exact do_k4f id h q t d pd f hT hk hm ha hL hO
    · exact do_k4t id h q t d pd f hT hk hm ha hL hO
  by_cases e5 : kd = 5
  · subst e5; cases sp
    · exact do_k5f id h q t d pd f hT hk hm ha hL hO
    · exact do_k5t id h q t d pd f hT hk hm ha hL hO
  cases sp
  · by_cases hl : kd < 2
    · exact do_kofl kd id h q t d pd f ⟨e0, e1, e2, e3, e4, e5⟩ hl hT hk hm ha hL hO
    · exact do_kofh kd id h q t d pd f ⟨e0, e1, e2, e3, e4, e5⟩ (by omega) hT hk hm ha hL hO
  · exact do_kot kd id h q t d pd f ⟨e0, e1, e2, e3, e4, e5⟩ hT hk hm ha hL hO
/-- two chains that a law made, beside the law's own blocks V -/
structure LwT (V : Nat → Prop) (w0 : World) (X : Nat) (m : Nat) (c : Nat → ChV) (w : World) : Prop where
  tw : ∃ O, TwP w O X c ∧ ∀ k, O k → ¬ V k ∧ w0.heap.size ≤ k
  ok : TwK m c
  bel : Below w0.heap.size w0 w
  frw : FrW V w
  lk : LaidOk w0
section
variable {V : Nat → Prop} {w0 w w' : World} {X m : Nat} {c : Nat → ChV}
theorem LwT.below (h : LwT V w0 X m c w) (hb : Below w.heap.size w w') : LwT V w0 X m c w' := by
  obtain ⟨O, ht, hO⟩ := h.tw
  exact ⟨⟨O, ht.below hb, hO⟩, h.ok, h.bel.trans (hb.mono h.bel.size), h.frw.later hb.size, h.lk⟩
theorem LwT.wide (h : LwT V w0 X m c w) (hb : Below w.heap.size w w') : LwT (Wid V w w') w0 X m c w' := by
  obtain ⟨O, ht, hO⟩ := h.tw
  refine ⟨⟨O, ht.below hb, fun k hk => ⟨fun hw => ?_, (hO k hk).2⟩⟩, h.ok, h.bel.trans (hb.mono h.bel.size), wid_frw h.frw hb.size, h.lk⟩
  rcases hw with hw | hw
  · exact (hO k hk).1 hw
  · have := ht.lt k hk; omega
theorem LwT.mono {m' : Nat} (h : LwT V w0 X m c w) (hm : m ≤ m') : LwT V w0 X m' c w := ⟨h.tw, fun k hk => (h.ok k hk).mono hm, h.bel, h.frw, h.lk⟩
/-- the law's own blocks changed -/
theorem LwT.own {S : Nat → Prop} (h : LwT V w0 X m c w) (hk : Kq.Keeps S w w') (hS : ∀ k, S k → V k) (hS0 : ∀ k, S k → w0.heap.size ≤ k) : LwT V w0 X m c w' := by
  obtain ⟨O, ht, hO⟩ := h.tw
  exact ⟨⟨O, ht.keeps hk (fun k h1 h2 => (hO k h1).1 (hS k h2)), hO⟩, h.ok, h.bel.trans (hk.below h.bel.size (fun k _ e => hS0 k e)), h.frw.later hk.size, h.lk⟩
theorem LwT.step {O : Nat → Prop} {c' : Nat → ChV} {r : Value} {x : Ending} (h : LwT V w0 X m c w) (hO : ∀ k, O k → ¬ V k ∧ w0.heap.size ≤ k) (hok : TwK (m + 1) c') (hs : StepT w O X r c' x w') : LwT V w0 X (m + 1) c' w' ∧ Fb V w w' := by
  obtain ⟨-, ht, hk⟩ := hs
  have hz2 := h.bel.size
  refine ⟨⟨⟨_, ht, fun k hk => ?_⟩, hok, h.bel.trans (hk.below hz2 (fun k _ e => (hO k e).2)), h.frw.later hk.size, h.lk⟩, hk.mono (fun k _ e => (hO k e).1)⟩
  rcases hk with hk | hk
  · exact hO k hk
  · exact ⟨fun hv => by have := h.frw k hv; omega, by omega⟩
theorem LwT.laid (h : LwT V w0 X m c w) : LaidOk w := h.lk.later h.bel
theorem far_of {O : Nat → Prop} (hL : LaidOk w0) (hO : ∀ k, O k → ¬ V k ∧ w0.heap.size ≤ k) : ¬ O 1 ∧ ¬ O 0 := ⟨fun h => by have := hL.low; have := (hO _ h).2; omega, fun h => by have := hL.low0; have := (hO _ h).2; omega⟩
/-- any call of them -/
theorem lw_do (a : CaV) (h : LwT V w0 X m c w) (hm : m ≤ 400) (ha : CaOk a) : Calls Tryz.prog 17 #[.pointer (some ⟨X, 0, none⟩), .agg #[.int .i64 a.kd, .int .i64 a.id, .int .u64 (a.h : Int), .string a.d, .int .i64 a.f, .int .u64 (a.q : Int), .int .u64 (a.t : Int), .string a.pd, .bool a.sp]] w fun x w' => x = .returned (.tuple #[(doP c a).val, .int .u64 (doH c a : Int), .int .i64 (doE c a)]) ∧ LwT V w0 X (m + 1) (doV c a) w' ∧ Fb V w w' := by
  obtain ⟨O, ht, hO⟩ := h.tw
  refine (tw_do a ht h.ok hm ha h.laid (far_of h.lk hO)).mono ?_
  intro x w' hs
  exact ⟨hs.1, h.step hO (h.ok.do (by omega) a) hs⟩
/-- one of them, called by itself -/
theorem LwT.one (h : LwT V w0 X m c w) (k : Nat) (hk : k < 2) : ∃ B P, w.cell? ⟨X, k, none⟩ = some (.pointer (some ⟨B, 0, none⟩)) ∧ ChP w P B (c k) ∧ (∀ r c' x w', ChK (m + 1) c' → StepC w P B r c' x w' → LwT V w0 X (m + 1) (updF c k c') w' ∧ Fb V w w') ∧ ¬ P 1 ∧ ¬ P 0 := by
  obtain ⟨O, ⟨B, P, M, ht⟩, hO⟩ := h.tw
  have hf := far_of h.lk hO
  refine ⟨B k, P k, ht.cell k hk, ht.ch k hk, fun r c' x w' hc hs => ?_, fun e => hf.1 (ht.sub k _ hk e).1, fun e => hf.2 (ht.sub k _ hk e).1⟩
  obtain ⟨h1, h2⟩ := ht.step hk hs
  refine h.step hO (fun j hj => ?_) (r := r) (x := .returned r) ⟨rfl, ⟨B, _, M, h1⟩, h2⟩
  unfold updF
  by_cases e : j = k
  · rw [if_pos e]; exact hc
  · rw [if_neg e]; exact (h.ok j hj).mono (by omega)
/-- .. asked -/
theorem LwT.ask (h : LwT V w0 X m c w) (k : Nat) (hk : k < 2) : ∃ B P, w.cell? ⟨X, k, none⟩ = some (.pointer (some ⟨B, 0, none⟩)) ∧ ChP w P B (c k) := by
  obtain ⟨B, P, h1, h2, _⟩ := h.one k hk
  exact ⟨B, P, h1, h2⟩
end
end Go.Proofs.YtbjchfcoacmaaaaGreatDoor
namespace Go.Proofs.YtbjchfcoacmaaaaGreatDoor
open Go.RowKit
set_option linter.unusedVariables false
theorem TwK.upd {m : Nat} {c : Nat → ChV} (h : TwK m c) (k : Nat) {c' : ChV} (hc : ChK (m + 1) c') : TwK (m + 1) (updF c k c') := fun j hj => by
  unfold updF
  by_cases e : j = k
  · rw [if_pos e]; exact hc
  · rw [if_neg e]; exact (h j hj).mono (by omega)
theorem LwT.made {w w1 : World} {h0 h1 s0 s1 X : Nat} (hL : LaidOk w) (hz0 : s0 ≠ 0) (hz1 : s1 ≠ 0) (l0 : s0 < 18446744073709551616) (l1 : s1 < 18446744073709551616) (g0 : h0 < 18446744073709551616) (g1 : h1 < 18446744073709551616) (w0 : World) (hw : Below w0.heap.size w0 w) (hL0 : LaidOk w0) {V : Nat → Prop} (hV : FrW V w) (ht : TwP w1 (fun k => w.heap.size ≤ k ∧ k < w1.heap.size) X (newTw h0 h1 s0 s1)) (b1 : Below w.heap.size w w1) : LwT V w0 X 0 (newTw h0 h1 s0 s1) w1 :=
  ⟨⟨_, ht, fun k hk => ⟨fun hv => by have := hV k hv; omega, by have := hw.size; omega⟩⟩, fun k hk => by
    obtain rfl | rfl : k = 0 ∨ k = 1 := by omega
    · exact newCh_k 0 h0 s0 (by omega) hz0 l0 g0
    · exact newCh_k 1 h1 s1 (by omega) hz1 l1 g1, hw.trans (b1.mono hw.size), hV.later b1.size, hL0⟩
/-- a packet of the law's own -/
structure PkB (V : Nat → Prop) (w : World) (X : Nat) (p : PkV) : Prop where
  blk : w.heap[X]? = some (.cells #[.int .i64 p.f, .int .u64 p.q, .int .u64 p.t, .string p.d] 46 (0, 0))
  v : V X
theorem PkB.fb {V : Nat → Prop} {w w' : World} {X : Nat} {p : PkV} (h : PkB V w X p) (hb : Fb V w w') : PkB V w' X p := ⟨Kq.Keeps.blk hb h.blk (fun hn => hn h.v), h.v⟩
theorem PkB.wide {V : Nat → Prop} {w w' : World} {X : Nat} {p : PkV} (h : PkB V w X p) (hb : Below w.heap.size w w') : PkB (Wid V w w') w' X p := ⟨Kq.below_blk hb h.blk (Kq.blk_lt h.blk), Or.inl h.v⟩
theorem PkB.new (V : Nat → Prop) (w : World) (p : PkV) : PkB (Wid V w (w.alloc (.cells #[.int .i64 p.f, .int .u64 p.q, .int .u64 p.t, .string p.d] 46))) (w.alloc (.cells #[.int .i64 p.f, .int .u64 p.q, .int .u64 p.t, .string p.d] 46)) w.heap.size p := ⟨Kq.blk_new _ _ _ _, Or.inr ⟨Nat.le_refl _, by simp⟩⟩
namespace AwC
noncomputable def c0 : Nat → ChV := newTw 5 9 1 1
noncomputable def c1 : Nat → ChV := updF c0 0 C1
noncomputable def c2 : Nat → ChV := updF c1 0 C2
noncomputable def c3 : Nat → ChV := doV c2 ⟨1, 1, 6, ⟨#[]⟩, 0, 0, 0, ⟨#[]⟩, false⟩
noncomputable def a2 : CaV := ⟨2, 1, 6, ⟨#[]⟩, 0, 1, 20, ⟨#[120]⟩, false⟩
theorem c2_0 : c2 0 = C2 := by
  show (if (0 : Nat) = 0 then C2 else c1 0) = C2
  rw [if_pos rfl]
theorem c2_1 : c2 1 = newCh 1 9 1 := rfl
theorem e3 : doE c2 ⟨1, 1, 6, ⟨#[]⟩, 0, 0, 0, ⟨#[]⟩, false⟩ = 0 ∧ c3 = updF c2 1 B1 := by
  constructor
  · unfold doE
    rw [if_neg (by simp), if_pos rfl]
    show (if (rootV (c2 0).st 6).2 = 0 then (setF 6 (rootV (c2 0).st 6).1 (c2 1).hs (c2 1).f).2.2 else (rootV (c2 0).st 6).2) = 0
    rw [c2_0, c2_1, root0, if_pos rfl]
    show (setF 6 rt (newCh 1 9 1).hs (newCh 1 9 1).f).2.2 = 0
    rw [upd0]
  · have h : doC c2 ⟨1, 1, 6, ⟨#[]⟩, 0, 0, 0, ⟨#[]⟩, false⟩ = B1 := by
      unfold doC
      rw [if_neg (by simp), if_pos rfl]
      show (if (rootV (c2 0).st 6).2 = 0 then updC (c2 1) 6 (rootV (c2 0).st 6).1 else c2 1) = _
      rw [c2_0, c2_1, root0, if_pos rfl]
      exact upd1
    unfold c3 doV
    rw [h]; rfl
theorem c3_0 : c3 0 = C2 := by rw [e3.2]; exact c2_0
theorem c3_1 : c3 1 = B1 := by
  rw [e3.2]
  show (if (1 : Nat) = 1 then B1 else c2 1) = B1
  rw [if_pos rfl]
theorem pr3 (c : Nat → ChV) (h : c 0 = C2) : a2.pr c = pr := by
  unfold CaV.pr
  rw [if_pos ⟨rfl, by simp [a2], by simp [a2]⟩]
  show (proveV (c 0).st k 6).1 = pr
  rw [h]
  exact pr0
theorem e4 : doE c3 a2 = 0 ∧ doV c3 a2 = updF c3 1 B2 := by
  constructor
  · unfold doE
    rw [if_neg (by simp [a2]), if_neg (by simp [a2]), if_pos (show a2.kd = 2 from rfl), pr3 _ c3_0]
    show firstE (recvE (c3 1) 0 1 20 x pr 6) = 0
    rw [c3_1]
    exact recv0
  · have h : doC c3 a2 = B2 := by
      unfold doC
      rw [if_neg (by simp [a2]), if_neg (by simp [a2]), if_pos (show a2.kd = 2 from rfl), pr3 _ c3_0]
      show recvC (c3 1) 0 1 20 x pr 6 = B2
      rw [c3_1]; rfl
    unfold doV
    rw [h]; rfl
theorem e5 : doE (doV c3 a2) a2 = 4 := by
  rw [e4.2]
  have h0 : updF c3 1 B2 0 = C2 := by
    show (if (0 : Nat) = 1 then B2 else c3 0) = C2
    rw [if_neg (by decide)]; exact c3_0
  have h1 : updF c3 1 B2 1 = B2 := by
    show (if (1 : Nat) = 1 then B2 else c3 1) = B2
    rw [if_pos rfl]
  unfold doE
  rw [if_neg (by simp [a2]), if_neg (by simp [a2]), if_pos (show a2.kd = 2 from rfl), pr3 _ h0]
  show firstE (recvE (updF c3 1 B2 1) 0 1 20 x pr 6) = 4
  rw [h1]
  exact recv1
theorem z1 : doP c2 ⟨1, 1, 6, ⟨#[]⟩, 0, 0, 0, ⟨#[]⟩, false⟩ = zeroPk ∧ doH c2 ⟨1, 1, 6, ⟨#[]⟩, 0, 0, 0, ⟨#[]⟩, false⟩ = 0 := ⟨rfl, rfl⟩
theorem z2 (c : Nat → ChV) : doP c a2 = zeroPk ∧ doH c a2 = 0 := ⟨rfl, rfl⟩
end AwC
set_option maxRecDepth 100000 in
set_option maxHeartbeats 2000000 in
theorem awake13 (w : World) (hL : LaidOk w) : Calls Tryz.prog 7 #[] w fun x w' => x = .returned (.bool true) ∧ Below w.heap.size w w' := by
  have HL := Lib.hid hL
  clear hL
  go_enter Tryz.func7, Tryz.ntmps7
  go_wp2_with fail
  refine (made13 5 9 1 1 w (by decide) (by decide)).mono ?_
  rintro x w1 ⟨X, rfl, ht, b1⟩
  have H1 : Hid (LwT (fun _ => False) w X 0 AwC.c0 w1) := Lib.hid (LwT.made HL.out (by decide) (by decide) (by decide) (by decide) (by decide) (by decide) w (Below.refl _ _) HL.out (fun _ h => h.elim) ht b1)
  clear ht b1
  obtain ⟨B0, P0, x0, hc0, hst0, -⟩ := H1.out.one 0 (by omega)
  have HC0 := Lib.hid hst0
  have HSE := Lib.hid (cn_send (c := newCh 0 5 1) ⟨#[120]⟩ 20 hc0 (H1.out.ok 0 (by omega)).ok (by decide) (by decide) H1.out.laid)
  have HK1 : Hid (ChK 1 AwC.C1) := Lib.hid (by
    have := (H1.out.ok 0 (by omega)).send (by omega) ⟨#[120]⟩ 20
    rw [show sendC (AwC.c0 0) ⟨#[120]⟩ 20 = AwC.C1 from AwC.send1] at this
    exact this)
  rw [show sendP (newCh 0 5 1) ⟨#[120]⟩ 20 = AwC.p from AwC.sendp, show firstE (sendE (newCh 0 5 1) ⟨#[120]⟩ 20) = 0 from AwC.send0, show sendC (newCh 0 5 1) ⟨#[120]⟩ 20 = AwC.C1 from AwC.send1] at HSE
  clear hc0 hst0
  go_wp2_with fail
  refine HSE.out.mono ?_
  rintro x w2 hst
  have hx := hst.1
  simp only [PkV.val, AwC.p, AwC.x] at hx
  subst hx
  obtain ⟨w3, hw3⟩ : ∃ z, z = w2.alloc (.cells #[.int .i64 0, .int .u64 1, .int .u64 20, .string ⟨#[120]⟩] 46) := ⟨_, rfl⟩
  obtain ⟨Y, hY⟩ : ∃ Y, Y = w2.heap.size := ⟨_, rfl⟩
  have H3 : Hid (LwT (Wid (fun _ => False) w2 w3) w X 1 AwC.c1 w3 ∧ PkB (Wid (fun _ => False) w2 w3) w3 Y AwC.p) := Lib.hid (by
    have h2 := (HC0.out _ _ _ _ HK1.out hst).1
    rw [hw3, hY]
    exact ⟨h2.wide (Kq.below_alloc _ _), PkB.new _ w2 AwC.p⟩)
  obtain ⟨V, hV⟩ : ∃ V, V = Wid (fun _ => False) w2 w3 := ⟨_, rfl⟩
  rw [← hV] at H3
  clear hV hst HC0 HSE H1 HK1 x0
  obtain ⟨B1, P1, x0, hc1, hst1, -⟩ := H3.out.1.one 0 (by omega)
  have HC1 := Lib.hid hst1
  have HCM := Lib.hid (cn_com hc1 (H3.out.1.ok 0 (by omega)).ok (by have := (H3.out.1.ok 0 (by omega)).nb; omega))
  have HK2 : Hid (ChK 2 AwC.C2) := Lib.hid (by
    have := (H3.out.1.ok 0 (by omega)).com (by omega)
    rw [show comC (AwC.c1 0) = AwC.C2 from AwC.com1] at this
    exact this)
  rw [show comC (AwC.c1 0) = AwC.C2 from AwC.com1, show comR (AwC.c1 0).st = .tuple #[.int .u64 ((6 : Nat) : Int), .int .i64 0] from by
    show comR AwC.C1.st = _
    unfold comR; rw [AwC.com0]] at HCM
  clear hc1 hst1
  rw [hw3] at x0
  have HW3 := Lib.hid hw3
  have HYY := Lib.hid hY
  rw [show ((6 : Nat) : Int) = 6 from rfl] at HCM
  go_wp2_with fail
  rw [← HW3.out, ← HYY.out]
  clear hw3 hY
  refine HCM.out.mono ?_
  rintro x w4 hst
  have hx := hst.1
  subst hx
  have H4 : Hid (LwT V w X 2 AwC.c2 w4 ∧ PkB V w4 Y AwC.p) := Lib.hid (by
    have h2 := HC1.out _ _ _ _ HK2.out hst
    exact ⟨h2.1, H3.out.2.fb h2.2⟩)
  clear hst HC1 HCM H3 HK2 x0 HW3 HYY
  have HD := Lib.hid (lw_do ⟨1, 1, 6, ⟨#[]⟩, 0, 0, 0, ⟨#[]⟩, false⟩ H4.out.1 (by omega) ⟨by decide, by decide, by decide, by decide, by decide⟩)
  rw [AwC.z1.1, AwC.z1.2, AwC.e3.1] at HD
  go_wp2_with fail
  refine HD.out.mono ?_
  rintro x w5 ⟨hx, hl, hf⟩
  simp only [PkV.val, zeroPk] at hx
  subst hx
  obtain ⟨w6, hw6⟩ : ∃ z, z = w5.alloc (.cells #[.int .i64 0, .int .u64 0, .int .u64 0, .string ⟨#[]⟩] 46) := ⟨_, rfl⟩
  have H6 : Hid (LwT V w X 3 AwC.c3 w6 ∧ PkB V w6 Y AwC.p) := Lib.hid (by
    rw [hw6]
    have hb := Kq.below_alloc w5 (.cells #[.int .i64 0, .int .u64 0, .int .u64 0, .string ⟨#[]⟩] 46)
    exact ⟨hl.below hb, (H4.out.2.fb hf).fb (Fb.of hb hl.frw)⟩)
  clear hl hf HD H4
  have HW6 := Lib.hid hw6
  have y0 := Kq.blk_cell H6.out.2.blk 0
  have y1 := Kq.blk_cell H6.out.2.blk 1
  have y2 := Kq.blk_cell H6.out.2.blk 2
  have y3 := Kq.blk_cell H6.out.2.blk 3
  rw [hw6] at y0 y1 y2 y3
  simp only [AwC.p, AwC.x] at y0 y1 y2 y3
  have HD := Lib.hid (lw_do AwC.a2 H6.out.1 (by omega) ⟨by decide, by decide, by decide, by decide, by decide⟩)
  rw [(AwC.z2 _).1, (AwC.z2 _).2, AwC.e4.1] at HD
  simp only [AwC.a2] at HD
  clear hw6
  go_wp2_with fail
  rw [← HW6.out]
  refine HD.out.mono ?_
  rintro x w7 ⟨hx, hl, hf⟩
  simp only [PkV.val, zeroPk] at hx
  subst hx
  obtain ⟨w8, hw8⟩ : ∃ z, z = w7.alloc (.cells #[.int .i64 0, .int .u64 0, .int .u64 0, .string ⟨#[]⟩] 46) := ⟨_, rfl⟩
  have H8 : Hid (LwT V w X 4 (doV AwC.c3 AwC.a2) w8 ∧ PkB V w8 Y AwC.p) := Lib.hid (by
    rw [hw8]
    have hb := Kq.below_alloc w7 (.cells #[.int .i64 0, .int .u64 0, .int .u64 0, .string ⟨#[]⟩] 46)
    exact ⟨hl.below hb, (H6.out.2.fb hf).fb (Fb.of hb hl.frw)⟩)
  clear hl hf HD H6 HW6 y0 y1 y2 y3
  have HW8 := Lib.hid hw8
  have y0 := Kq.blk_cell H8.out.2.blk 0
  have y1 := Kq.blk_cell H8.out.2.blk 1
  have y2 := Kq.blk_cell H8.out.2.blk 2
  have y3 := Kq.blk_cell H8.out.2.blk 3
  rw [hw8] at y0 y1 y2 y3
  simp only [AwC.p, AwC.x] at y0 y1 y2 y3
  have HD := Lib.hid (lw_do AwC.a2 H8.out.1 (by omega) ⟨by decide, by decide, by decide, by decide, by decide⟩)
  rw [(AwC.z2 _).1, (AwC.z2 _).2, AwC.e5] at HD
  simp only [AwC.a2] at HD
  clear hw8
  go_wp2_with fail
  rw [← HW8.out]
  refine HD.out.mono ?_
  rintro x w9 ⟨hx, hl, hf⟩
  simp only [PkV.val, zeroPk] at hx
  subst hx
  have H9 : Hid (PkB V w9 Y AwC.p ∧ Below w.heap.size w w9) := Lib.hid ⟨H8.out.2.fb hf, hl.bel⟩
  clear hl hf HD H8 HW8 y0 y1 y2 y3
  have hb := Kq.below_alloc w9 (.cells #[.int .i64 0, .int .u64 0, .int .u64 0, .string ⟨#[]⟩] 46)
  have y1 := Kq.blk_cell (Kq.below_blk hb H9.out.1.blk (Kq.blk_lt H9.out.1.blk)) 1
  simp only [AwC.p, AwC.x] at y1
  have HB := Lib.hid (H9.out.2.trans (hb.mono H9.out.2.size))
  clear hb
  go_wp2
  go_ret
  exact ⟨rfl, HB.out⟩
end Go.Proofs.YtbjchfcoacmaaaaGreatDoor
namespace Go.Proofs.YtbjchfcoacmaaaaGreatDoor
open Go.RowKit
set_option linter.unusedVariables false
def NOk (n : NtV) : Prop := (1 ≤ n.k ∧ n.k ≤ 4) ∧ PkOk n.p
structure NtK (c : ChV) : Prop where
  bl : ∀ n ∈ c.blks.flatten, NOk n
  bu : ∀ n ∈ c.built, NOk n
theorem fromE_ok {p : PkV} {id : Int} (h : fromE p id = 0) : PkOk p := by
  unfold fromE at h
  by_cases e : PkOk p ∧ p.f = id
  · exact e.1
  · rw [if_neg e] at h; cases h
theorem NtK.note {c : ChV} (h : NtK c) (k : Int) (p : PkV) (h1 : 1 ≤ k) (h2 : k ≤ 4) (hp : PkOk p) : NtK (c.note k p) := ⟨h.bl, fun n hn => by
  rcases List.mem_append.1 (show n ∈ c.built ++ [ntOf k p] from hn) with h3 | h3
  · exact h.bu n h3
  · rw [List.mem_singleton.1 h3]; exact ⟨⟨h1, h2⟩, hp⟩⟩
theorem NtK.new (id h seq : Nat) : NtK (newCh id h seq) := ⟨fun n hn => by simp [newCh] at hn, fun n hn => by simp [newCh] at hn⟩
theorem NtK.send {c : ChV} (h : NtK c) (d : ByteArray) (t : Nat) : NtK (sendC c d t) := by
  unfold sendC
  by_cases e : firstE (sendE c d t) = 0
  · rw [if_pos e]
    have h1 := fromE_ok (firstE_zero _ e _ (by simp [sendE] : fromE (c.pk t d) (c.id : Int) ∈ sendE c d t))
    exact NtK.note (c := { (c.set (keyT 99 c.next) (comD (c.pk t d))) with next := c.next + 1 }) ⟨h.bl, h.bu⟩ 1 (c.pk t d) (by omega) (by omega) h1
  · rw [if_neg e]; exact h
theorem NtK.recv {c : ChV} (h : NtK c) (f : Int) (q t : Nat) (d s : ByteArray) (H : Nat) : NtK (recvC c f q t d s H) := by
  unfold recvC
  by_cases e : firstE (recvE c f q t d s H) = 0
  · rw [if_pos e]
    have h1 := fromE_ok (firstE_zero _ e _ (by simp [recvE] : fromE ⟨f, (q : Int), (t : Int), d⟩ (1 - (c.id : Int)) ∈ recvE c f q t d s H))
    exact NtK.note (c := ((c.set (keyT 114 q) ⟨#[1]⟩).set (keyT 97 q) (ansD ⟨f, (q : Int), (t : Int), d⟩))) ⟨h.bl, h.bu⟩ 2 _ (by omega) (by omega) h1
  · rw [if_neg e]; exact h
theorem NtK.setl {c : ChV} (h : NtK c) (k f : Int) (q t : Nat) (d : ByteArray) (es : List Int) (k1 : 1 ≤ k) (k2 : k ≤ 4) : NtK (setlC c k f q t d es) := by
  unfold setlC
  by_cases e : firstE (setlE c f q t d es) = 0
  · rw [if_pos e]
    have h1 := fromE_ok (firstE_zero _ e _ (by simp [setlE] : fromE ⟨f, (q : Int), (t : Int), d⟩ (c.id : Int) ∈ setlE c f q t d es))
    exact NtK.note (c := c.del (keyT 99 q)) ⟨h.bl, h.bu⟩ k _ k1 k2 h1
  · rw [if_neg e]; exact h
theorem NtK.com {c : ChV} (h : NtK c) : NtK (comC c) := by
  unfold comC
  split
  · refine ⟨fun n hn => ?_, fun n hn => by cases hn⟩
    rw [show ({ c with st := (comV c.st).1, blks := c.blks ++ [c.built], built := [] } : ChV).blks.flatten = c.blks.flatten ++ c.built by simp] at hn
    rcases List.mem_append.1 hn with h3 | h3
    · exact h.bl n h3
    · exact h.bu n h3
  · exact h
theorem NtK.do {c : Nat → ChV} (h : ∀ k, k < 2 → NtK (c k)) (a : CaV) : ∀ k, k < 2 → NtK (doV c a k) := by
  intro k hk
  unfold doV updF
  by_cases e : k = a.s
  · rw [if_pos e]
    have hs := h a.s (sideN_lt _)
    unfold doC
    split
    · exact hs.send _ _
    · split
      · split
        · exact ⟨hs.bl, hs.bu⟩
        · exact hs
      · split
        · exact hs.recv _ _ _ _ _ _
        · split
          · exact hs.setl _ _ _ _ _ _ (by omega) (by omega)
          · split
            · exact hs.setl _ _ _ _ _ _ (by omega) (by omega)
            · split
              · exact hs.com
              · exact hs
  · rw [if_neg e]; exact h k hk
/-- a log that is read on -/
theorem fw_step {bs : List (List NtV)} {j i n stp : Nat} (hj : j < bs.length) (hi : i ≤ bs[j].length) (hp : posL bs j i = min (n * stp) bs.flatten.length) :
    EndL bs (j + (logG (bs.drop j) i stp).2.1) (logG (bs.drop j) i stp).2.2 ∧ posL bs (j + (logG (bs.drop j) i stp).2.1) (logG (bs.drop j) i stp).2.2 = min ((n + 1) * stp) bs.flatten.length ∧
    bs.flatten.take (min (n * stp) bs.flatten.length) ++ (logG (bs.drop j) i stp).1 = bs.flatten.take (min ((n + 1) * stp) bs.flatten.length) ∧ (logG (bs.drop j) i stp).1.length ≤ stp ∧
    ((logG (bs.drop j) i stp).2.1 = 0 → (logG (bs.drop j) i stp).2.2 = i + (logG (bs.drop j) i stp).1.length) := by
  obtain ⟨e1, e2, e3⟩ := logG_at bs j i stp hj hi
  have hne : bs.drop j ≠ [] := fun e => by have := congrArg List.length e; simp at this; omega
  have hh : (bs.drop j).head hne = bs[j] := by simp [List.head_drop]
  have hmul : (n + 1) * stp = n * stp + stp := by rw [Nat.add_mul, Nat.one_mul]
  refine ⟨e2, by rw [e3, hp]; omega, ?_, logG_len _ _ _ hne (by rw [hh]; exact hi), fun h0 => logG_same _ _ _ hne h0 (by rw [hh]; exact hi)⟩
  rw [e1, hp]
  by_cases hc : n * stp ≤ bs.flatten.length
  · rw [Nat.min_eq_left hc]
    have : min ((n + 1) * stp) bs.flatten.length = n * stp + min stp (bs.flatten.length - n * stp) := by omega
    rw [this, List.take_add]
    congr 1
    by_cases h2 : stp ≤ bs.flatten.length - n * stp
    · rw [Nat.min_eq_left h2]
    · rw [Nat.min_eq_right (by omega), List.take_of_length_le (by rw [List.length_drop]; omega), List.take_of_length_le (by rw [List.length_drop]; omega)]
  · rw [Nat.min_eq_right (by omega), Nat.min_eq_right (by omega), List.drop_of_length_le (Nat.le_refl _)]
    simp
end Go.Proofs.YtbjchfcoacmaaaaGreatDoor
