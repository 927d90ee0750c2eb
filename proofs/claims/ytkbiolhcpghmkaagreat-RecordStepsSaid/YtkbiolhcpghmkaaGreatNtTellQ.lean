/- Contracts of note.Notes, Items, Place on the good way. Condition: lengths. -/
import Derived.WalkSpells
import Derived.Outline
import Derived.Test.YtkbiolhcpghmkaaGreatNtPlRQ
import Derived.Test.YtkbiolhcpghmkaaGreatNtRefPQ
namespace Go.Proofs.YtkbiolhcpghmkaaGreat
open Go.RowKit
set_option linter.unusedVariables false
def ecells (c : NtV → List Value) (ns : List NtV) : List Value := ns.flatMap c
theorem ecells_len (c : NtV → List Value) (hc : ∀ n, (c n).length = 5) (ns : List NtV) : (ecells c ns).length = ns.length * 5 := by
  induction ns with
  | nil => rfl
  | cons n ns ih => simp only [ecells, List.flatMap_cons, List.length_append, List.length_cons] at ih ⊢; rw [ih, hc]; omega
theorem ecells_snoc (c : NtV → List Value) (ns : List NtV) (n : NtV) : ecells c (ns ++ [n]) = ecells c ns ++ c n := by simp [ecells]
theorem ecells_at (c : NtV → List Value) (hc : ∀ n, (c n).length = 5) (ns : List NtV) (j : Nat) (h : j < ns.length) (i : Nat) (hi : i < 5) : (ecells c ns)[j * 5 + i]? = (c ns[j])[i]? := by
  induction ns generalizing j with
  | nil => cases h
  | cons n ns ih =>
    simp only [ecells, List.flatMap_cons]
    cases j with
    | zero => rw [Nat.zero_mul, Nat.zero_add, List.getElem?_append_left (by rw [hc]; omega)]; rfl
    | succ j =>
      rw [List.getElem?_append_right (by rw [hc]; omega), hc]
      rw [show (j + 1) * 5 + i - 5 = j * 5 + i by omega]
      exact ih j (by simpa using h)
theorem row_ens {c : NtV → List Value} (hc : ∀ n, (c n).length = 5) {w : World} {base : Nat} {e : TypeId} {v : Value} {ns : List NtV} (h : w.ownsRow base e 5 v ns.length (ecells c ns)) :
    ∃ A cap, v = .slice A ns.length cap ∧ EnAt c w A ns ∧ ∀ b off, A = some ⟨b, off, none⟩ → base ≤ b := by
  have hcell := fun g hg => h.cells (g := g) hg
  obtain ⟨h1, h2⟩ := h
  rcases h2 with ⟨rfl, h0⟩ | ⟨g, cap, cur, rfl, h3, h4, h5⟩
  · refine ⟨none, 0, by rw [h0], fun j hj => by omega, fun b off e => by cases e⟩
  · refine ⟨some ⟨g, 0, none⟩, cap, rfl, fun j hj => ⟨g, 0, rfl, Kq.blk_lt h4, fun i hi => ?_⟩, fun b off e => by cases e; exact h3⟩
    have hlt : j * 5 + i < (ecells c ns).length := by rw [ecells_len c hc]; omega
    have := hcell g rfl (j * 5 + i) _ (List.getElem?_eq_getElem hlt)
    rw [add_flat', Nat.zero_add] at this
    rw [show 0 + j * 5 + i = j * 5 + i by omega, this, ← List.getElem?_eq_getElem hlt, ecells_at c hc ns j hj i hi]
theorem infoNt : (Tryz.prog.info? 46).map (fun i => (i.zero, i.size, i.bytes)) = some (some (.agg #[.int .i64 0, .int .i64 0, .int .u64 0, .int .u64 0, .string ⟨#[]⟩]), 5, 48) := by kernel_rfl
set_option maxRecDepth 100000 in
set_option maxHeartbeats 2000000 in
theorem nt_whole (n : NtV) (w : World) :
    Calls Tryz.prog 99 #[.int .i64 n.k, .agg #[.int .i64 n.f, .int .u64 n.q, .int .u64 n.t, .string n.d]] w fun x w' => x = .returned (.agg #[.int .i64 n.k, .int .i64 n.f, .int .u64 n.q, .int .u64 n.t, .string n.d]) ∧ Below w.heap.size w w' := by
  obtain ⟨k, f, q, t, d⟩ := n
  simp only
  go_enter Tryz.func99, Tryz.ntmps99
  go_wp2
  have HD : Hid (((w.alloc (Obj.cells #[Value.int IntKind.i64 f, Value.int IntKind.u64 q, Value.int IntKind.u64 t, Value.string d] 44)).alloc (Obj.cells #[Value.int IntKind.i64 k, Value.int IntKind.i64 f, Value.int IntKind.u64 q, Value.int IntKind.u64 t, Value.string d] 46)).heap[w.heap.size + 1]? = some (.cells #[.int .i64 k, .int .i64 f, .int .u64 q, .int .u64 t, .string d] 46 (0, 0)) ∧ Below w.heap.size w ((w.alloc (Obj.cells #[Value.int IntKind.i64 f, Value.int IntKind.u64 q, Value.int IntKind.u64 t, Value.string d] 44)).alloc (Obj.cells #[Value.int IntKind.i64 k, Value.int IntKind.i64 f, Value.int IntKind.u64 q, Value.int IntKind.u64 t, Value.string d] 46))) :=
    Lib.hid ⟨by have := Kq.blk_new (w.alloc (Obj.cells #[Value.int IntKind.i64 f, Value.int IntKind.u64 q, Value.int IntKind.u64 t, Value.string d] 44)) #[.int .i64 k, .int .i64 f, .int .u64 q, .int .u64 t, .string d] 46 (0, 0); rwa [World.size_alloc] at this, (Kq.below_alloc _ _).trans ((Kq.below_alloc _ _).mono (by simp))⟩
  generalize (w.alloc (Obj.cells #[Value.int IntKind.i64 f, Value.int IntKind.u64 q, Value.int IntKind.u64 t, Value.string d] 44)).alloc (Obj.cells #[Value.int IntKind.i64 k, Value.int IntKind.i64 f, Value.int IntKind.u64 q, Value.int IntKind.u64 t, Value.string d] 46) = wl at *
  have r0 := Kq.blk_cell HD.out.1 0
  have r1 := Kq.blk_cell HD.out.1 1
  have r2 := Kq.blk_cell HD.out.1 2
  have r3 := Kq.blk_cell HD.out.1 3
  have r4 := Kq.blk_cell HD.out.1 4
  simp only [List.getElem?_toArray, List.getElem?_cons_zero, List.getElem?_cons_succ] at r0 r1 r2 r3 r4
  refine bodyPost_ret (v := .agg #[.int .i64 k, .int .i64 f, .int .u64 q, .int .u64 t, .string d]) (by simp [results, Tryz.results99, go_sem, r0, r1, r2, r3, r4]) rfl ?_
  exact ⟨rfl, HD.out.2⟩
/-- what is told of a list -/
def TellPostN (c : NtV → List Value) (w : World) (B : Nat) (ns : List NtV) (rest : List Nat) (x : Ending) (w' : World) : Prop :=
  ∃ A cap, x = .returned (.slice A ns.length cap) ∧ EnAt c w' A ns ∧ RdL w' B rest ∧ Kq.Keeps (· = B) w w' ∧ ∀ b off, A = some ⟨b, off, none⟩ → w.heap.size ≤ b
/-- the same, without where the list lies -/
def TellPost (c : NtV → List Value) (w : World) (B : Nat) (ns : List NtV) (rest : List Nat) (x : Ending) (w' : World) : Prop :=
  ∃ A cap, x = .returned (.slice A ns.length cap) ∧ EnAt c w' A ns ∧ RdL w' B rest ∧ Kq.Keeps (· = B) w w'
theorem notes_src (n : NtV) (w : World) : Src Tryz.prog 5 29 (.slice (some ⟨w.heap.size, 0, none⟩) 1 1) 1 n.nc (w.alloc (.cells #[.int .i64 n.k, .int .i64 n.f, .int .u64 n.q, .int .u64 n.t, .string n.d] 46)) :=
  Src.ofSlice _ Tryz.underlying29 ⟨w.heap.size, 0, none⟩ 1 1 n.nc (by simp [NtV.nc]) (fun j u hj => Kq.cell_new _ _ _ (by rw [← hj]; simp [NtV.nc])) (fun u hu => by
    simp only [NtV.nc, List.mem_cons, List.not_mem_nil, or_false] at hu
    rcases hu with rfl | rfl | rfl | rfl | rfl <;> rfl)
theorem notes_len (n : NtV) : n.nc.length = 5 := rfl
set_option maxRecDepth 100000 in
set_option maxHeartbeats 4000000 in
theorem nt_tell (B mb mc : Nat) (marks : List Int) (ns : List NtV) (rest : List Nat) (w : World) (h : RdL w B ([ns.length] ++ (encL ns ++ rest))) (hM : IntsAt w mb marks) (hMB : mb ≠ B) (hms : marks.length ≤ 10) (hwf : ∀ n ∈ ns, n.wf) (hns : ns.length ≤ 255) (hok : ∀ n ∈ ns, EnOk marks n) (hm : ∀ m ∈ marks, 0 ≤ m ∧ m ≤ 255) :
    Calls Tryz.prog 100 #[.pointer (some ⟨B, 0, none⟩), .func (.func 99) #[] #[], .slice (some ⟨mb, 0, none⟩) marks.length mc] w (TellPostN NtV.nc w B ns rest) := by
  obtain ⟨i0, hi, hz0, hz1, hz2⟩ := info_parts infoNt
  have hB := h.lt
  have H := Lib.hid (And.intro h (And.intro hM (And.intro hMB (And.intro hwf (And.intro hok hm)))))
  have HMS := Lib.hid hms
  have HNS := Lib.hid hns
  have HB := Lib.hid hB
  clear h hM hMB hms hwf hok hm hB
  go_enter Tryz.func100, Tryz.ntmps100
  go_wp2_with fail
  refine (rl_byte B ns.length _ w H.out.1).mono ?_
  rintro x w1 ⟨rfl, R1, K1⟩
  have H1 := Lib.hid (And.intro R1 K1)
  clear R1 K1
  go_wp2
  go_loopw [7, 12] (fun u i wr => ∃ (j : Nat) (v : Value), j ≤ ns.length ∧ i = .int .i64 (j : Int) ∧ v = u ∧ wr.ownsRow w.heap.size 46 5 v j (ecells NtV.nc (ns.take j)) ∧ RdL wr B (encL (ns.drop j) ++ rest) ∧ Kq.Keeps (· = B) w wr) (fun _ i _ => ns.length - (intOf i).toNat)
  case atStart => exact ⟨0, _, by omega, rfl, rfl, ⟨rfl, Or.inl ⟨rfl, rfl⟩⟩, H1.out.1, H1.out.2⟩
  case round =>
    obtain ⟨j, v, hj, rfl, rfl, hown, hR, hK⟩ := hrel
    have hns' := HNS.out
    by_cases hlt : j < ns.length
    · obtain ⟨n, hn⟩ : ∃ n, n = ns[j] := ⟨_, rfl⟩
      have hmem : n ∈ ns := by rw [hn]; exact List.getElem_mem _
      have hEn := H.out.2.2.2.2.1 n hmem
      have hk := H.out.2.2.2.2.2 n.k hEn.1
      have hdrop : encL (ns.drop j) ++ rest = [n.k.toNat] ++ (encP n.p ++ (encL (ns.drop (j + 1)) ++ rest)) := by
        rw [List.drop_eq_getElem_cons hlt, ← hn]
        simp [encL, encE, List.append_assoc]
      rw [hdrop] at hR
      have HS : Hid (ecells NtV.nc (ns.take (j + 1)) = ecells NtV.nc (ns.take j) ++ n.nc) := Lib.hid (by rw [List.take_succ_eq_append_getElem hlt, ecells_snoc, hn])
      have HE := Lib.hid (And.intro hEn (And.intro hk (H.out.2.2.2.1 n hmem)))
      have HQ := Lib.hid (And.intro hown (And.intro hR hK))
      have HLT := Lib.hid hlt
      clear hdrop hmem hEn hk hn hown hR hK
      obtain ⟨k, f, q, t, d⟩ := n
      simp only at HQ HE
      obtain ⟨kn, rfl⟩ := Int.eq_ofNat_of_zero_le HE.out.2.1.1
      rw [Int.toNat_natCast] at HQ
      go_wp2_with fail
      refine (rl_byte B kn _ wr HQ.out.2.1).mono ?_
      rintro x w2 ⟨rfl, R2, K2⟩
      have H2 := Lib.hid (And.intro R2 (And.intro (HQ.out.2.2.trans K2) (And.intro (own_later HQ.out.1 (fun g hg => K2.block g (HQ.out.1.lt g hg).2 (fun e => by have h1 := own_ge HQ.out.1 hg; have h2 := HB.out; omega))) (Nat.le_trans HQ.out.2.2.size K2.size))))
      clear R2 K2 HQ
      go_wp2_with fail
      refine (rl_get B ⟨f, q, t, d⟩ HE.out.1.2 HE.out.2.2.1 HE.out.2.2.2 _ w2 H2.out.1).mono ?_
      rintro x w3 ⟨rfl, R3, K3⟩
      have H3 := Lib.hid (And.intro R3 (And.intro (H2.out.2.1.trans K3) (And.intro (own_later H2.out.2.2.1 (fun g hg => K3.block g (H2.out.2.2.1.lt g hg).2 (fun e => by have h1 := own_ge H2.out.2.2.1 hg; have h2 := HB.out; omega))) (Nat.le_trans H2.out.2.2.2 K3.size))))
      clear R3 K3 H2
      have H4 : Hid (IntsAt (w3.alloc (Obj.cells #[Value.int IntKind.i64 f, Value.int IntKind.u64 q, Value.int IntKind.u64 t, Value.string d] 44)) mb marks ∧ PB (w3.alloc (Obj.cells #[Value.int IntKind.i64 f, Value.int IntKind.u64 q, Value.int IntKind.u64 t, Value.string d] 44)) w3.heap.size f q t d ∧ Below w3.heap.size w3 (w3.alloc (Obj.cells #[Value.int IntKind.i64 f, Value.int IntKind.u64 q, Value.int IntKind.u64 t, Value.string d] 44))) :=
        Lib.hid ⟨(H.out.2.1.keeps H3.out.2.1 H.out.2.2.1).below (Kq.below_alloc _ _), ⟨Kq.blk_new _ _ _ _⟩, Kq.below_alloc _ _⟩
      have dm : decide ((kn : Int) ∈ marks) = true := decide_eq_true HE.out.1.1
      have hmsl := HMS.out
      go_wp2_with fail
      refine (nt_contains mb mc marks kn _ H4.out.1.1 (by unfold maxLen; omega) H4.out.1.2).mono ?_
      rintro x w5 ⟨rfl, b5⟩
      rw [dm]
      have H5 : Hid (Below w3.heap.size w3 w5 ∧ PB w5 w3.heap.size f q t d ∧ RdL w5 B (encL (ns.drop (j + 1)) ++ rest)) := Lib.hid (by
        have hb := H4.out.2.2.trans (b5.mono H4.out.2.2.size)
        exact ⟨hb, ⟨Kq.below_blk b5 H4.out.2.1.blk (Kq.blk_lt H4.out.2.1.blk)⟩, H3.out.1.below hb⟩)
      clear b5 H4 dm hmsl
      go_wp2_with fail
      refine (rl_err B _ w5 H5.out.2.2).mono ?_
      rintro x w6 ⟨rfl, rfl⟩
      have c0 := H5.out.2.1.c0
      have c1 := H5.out.2.1.c1
      have c2 := H5.out.2.1.c2
      have c3 := H5.out.2.1.c3
      go_wp2_with fail
      refine (nt_whole ⟨kn, f, q, t, d⟩ w5).mono ?_
      rintro x w6 ⟨rfl, b6⟩
      have H6 : Hid (Below w3.heap.size w3 w6) := Lib.hid (H5.out.1.trans (b6.mono H5.out.1.size))
      clear b6 H5 c0 c1 c2 c3
      have H7 : Hid ((w6.alloc (.cells #[.int .i64 kn, .int .i64 f, .int .u64 q, .int .u64 t, .string d] 46)).ownsRow w.heap.size 46 5 v j (ecells NtV.nc (ns.take j)) ∧ Below w3.heap.size w3 (w6.alloc (.cells #[.int .i64 kn, .int .i64 f, .int .u64 q, .int .u64 t, .string d] 46)) ∧ w.heap.size ≤ (w6.alloc (.cells #[.int .i64 kn, .int .i64 f, .int .u64 q, .int .u64 t, .string d] 46)).heap.size) := Lib.hid (by
        have hb : Below w3.heap.size w3 (w6.alloc (.cells #[.int .i64 kn, .int .i64 f, .int .u64 q, .int .u64 t, .string d] 46)) := H6.out.trans ((Kq.below_alloc _ _).mono H6.out.size)
        exact ⟨own_later H3.out.2.2.1 (fun g hg => hb.block g (H3.out.2.2.1.lt g hg).2), hb, Nat.le_trans H3.out.2.2.2 hb.size⟩)
      go_wp2_with (at_builtin; refine Kq.wpList_append_any _ rfl (.tmp 31) (.tmp 36) 29 29 rfl w.heap.size 46 i0 (.agg #[.int .i64 0, .int .i64 0, .int .u64 0, .int .u64 0, .string ⟨#[]⟩]) 5 48 Tryz.underlying29 hi hz0 hz1 hz2 rfl (by decide) v j (ecells NtV.nc (ns.take j)) rfl H7.out.1 (.slice (some ⟨w6.heap.size, 0, none⟩) 1 1) 1 (NtV.nc ⟨kn, f, q, t, d⟩) rfl ?hs ?h1 ?h2 ?h3 ?_)
      case hs => exact notes_src ⟨kn, f, q, t, d⟩ w6
      case h1 => unfold maxLen; omega
      case h2 => omega
      case h3 => exact H7.out.2.2
      intro v' w8 hown8 hgrow hfresh
      have H8 : Hid (w8.ownsRow w.heap.size 46 5 v' (j + 1) (ecells NtV.nc (ns.take (j + 1))) ∧ RdL w8 B (encL (ns.drop (j + 1)) ++ rest) ∧ Kq.Keeps (· = B) w w8) := Lib.hid (by
        have hv : ∀ g, v.ownBlock = some g → w.heap.size ≤ g := fun g hg => own_ge H7.out.1 hg
        have k8 : Kq.Keeps (fun g => w.heap.size ≤ g) (w6.alloc (.cells #[.int .i64 kn, .int .i64 f, .int .u64 q, .int .u64 t, .string d] 46)) w8 := Kq.Keeps.grown hgrow (fun k _ hk => hv k hk)
        have k7 : Kq.Keeps (fun g => w.heap.size ≤ g) w3 (w6.alloc (.cells #[.int .i64 kn, .int .i64 f, .int .u64 q, .int .u64 t, .string d] 46)) := Kq.Keeps.of_below H7.out.2.1 (fun k h1 h2 => absurd h2 (Nat.not_lt.2 h1))
        refine ⟨by rw [HS.out]; exact hown8, H3.out.1.keeps (k7.trans k8) (Nat.not_le.2 HB.out), ?_⟩
        have k3 := H3.out.2.1
        refine ⟨(k7.trans k8).os.trans k3.os, (k7.trans k8).tape.trans k3.tape, (k7.trans k8).output.trans k3.output, Nat.le_trans k3.size (k7.trans k8).size, fun g hg hn => ?_⟩
        rw [(k7.trans k8).block g (Nat.lt_of_lt_of_le hg k3.size) (Nat.not_le.2 hg), k3.block g hg hn])
      clear hown8 hgrow hfresh H7 H6 H3 HE
      go_wp2
      go_roundw
      case rel => exact ⟨j + 1, v', HLT.out, by go_num, rfl, H8.out.1, H8.out.2.1, H8.out.2.2⟩
      case measure => have := HLT.out; simp [intOf]; omega
    · obtain rfl : j = ns.length := by omega
      have HP : Hid (∀ vv, vv = v → TellPostN NtV.nc w B ns rest (.returned vv) wr) := Lib.hid (fun vv hvv => by
        rw [List.take_length] at hown
        obtain ⟨A, cap, hv, hE, hF⟩ := row_ens notes_len hown
        rw [List.drop_length] at hR
        exact ⟨A, cap, by rw [hvv, hv], hE, by simpa [encL] using hR, hK, hF⟩)
      clear hown hR hK
      go_wp2
      go_ret
      exact HP.out _ rfl
set_option maxRecDepth 100000 in
set_option maxHeartbeats 2000000 in
theorem nt_notesN (B : Nat) (ns : List NtV) (rest : List Nat) (w : World) (h : RdL w B ([ns.length] ++ (encL ns ++ rest))) (hwf : ∀ n ∈ ns, n.wf) (hns : ns.length ≤ 255) (hok : ∀ n ∈ ns, EnOk [1, 2, 3, 4] n) :
    Calls Tryz.prog 78 #[.pointer (some ⟨B, 0, none⟩)] w (TellPostN NtV.nc w B ns rest) := by
  have hb := Kq.below_alloc w (.cells #[.int .i64 1, .int .i64 2, .int .i64 3, .int .i64 4] 3)
  have hM : IntsAt (w.alloc (.cells #[.int .i64 1, .int .i64 2, .int .i64 3, .int .i64 4] 3)) w.heap.size [1, 2, 3, 4] := by
    refine ⟨by simp, fun j hj => ?_⟩
    have hj' : j < 4 := hj
    rw [Kq.blk_cell (Kq.blk_new w _ _ _) j]
    match j, hj' with
    | 0, _ => rfl
    | 1, _ => rfl
    | 2, _ => rfl
    | 3, _ => rfl
  have H := Lib.hid (And.intro (h.below hb) (And.intro hM (And.intro (Ne.symm (Nat.ne_of_lt h.lt)) (And.intro hwf (And.intro hns (And.intro hok hb))))))
  have HB := Lib.hid h.lt
  clear h hM hwf hns hok hb
  go_enter Tryz.func78, Tryz.ntmps78
  go_wp2_with fail
  refine (nt_tell B w.heap.size 4 [1, 2, 3, 4] ns rest _ H.out.1 H.out.2.1 H.out.2.2.1 (by decide) H.out.2.2.2.1 H.out.2.2.2.2.1 H.out.2.2.2.2.2.1 (by decide)).mono ?_
  rintro x w2 ⟨A, cap, rfl, hE, hR, hK, hF⟩
  have HP : Hid (TellPostN NtV.nc w B ns rest (.returned (.slice A ns.length cap)) w2) := Lib.hid ⟨A, cap, rfl, hE, hR, (Kq.Keeps.of_below H.out.2.2.2.2.2.2 (fun k h1 h2 => absurd h2 (Nat.not_lt.2 h1))).trans hK, fun b off e => Nat.le_trans H.out.2.2.2.2.2.2.size (hF b off e)⟩
  clear hE hR hK hF
  go_wp2
  go_ret
  exact HP.out
theorem infoItN : (Tryz.prog.info? 51).map (fun i => (i.zero, i.size, i.bytes)) = some (some (.agg #[.int .i64 0, .int .u64 0, .int .u64 0, .string ⟨#[]⟩, .int .i64 0]), 5, 48) := by kernel_rfl
set_option maxRecDepth 100000 in
set_option maxHeartbeats 2000000 in
theorem it_whole (n : NtV) (w : World) :
    Calls Tryz.prog 97 #[.int .i64 n.k, .agg #[.int .i64 n.f, .int .u64 n.q, .int .u64 n.t, .string n.d]] w fun x w' => x = .returned (.agg #[.int .i64 n.f, .int .u64 n.q, .int .u64 n.t, .string n.d, .int .i64 n.k]) ∧ Below w.heap.size w w' := by
  obtain ⟨k, f, q, t, d⟩ := n
  simp only
  go_enter Tryz.func97, Tryz.ntmps97
  go_wp2
  have HD : Hid (((w.alloc (Obj.cells #[Value.int IntKind.i64 f, Value.int IntKind.u64 q, Value.int IntKind.u64 t, Value.string d] 44)).alloc (Obj.cells #[Value.int IntKind.i64 f, Value.int IntKind.u64 q, Value.int IntKind.u64 t, Value.string d, Value.int IntKind.i64 k] 51)).heap[w.heap.size + 1]? = some (.cells #[.int .i64 f, .int .u64 q, .int .u64 t, .string d, .int .i64 k] 51 (0, 0)) ∧ Below w.heap.size w ((w.alloc (Obj.cells #[Value.int IntKind.i64 f, Value.int IntKind.u64 q, Value.int IntKind.u64 t, Value.string d] 44)).alloc (Obj.cells #[Value.int IntKind.i64 f, Value.int IntKind.u64 q, Value.int IntKind.u64 t, Value.string d, Value.int IntKind.i64 k] 51))) :=
    Lib.hid ⟨by have := Kq.blk_new (w.alloc (Obj.cells #[Value.int IntKind.i64 f, Value.int IntKind.u64 q, Value.int IntKind.u64 t, Value.string d] 44)) #[.int .i64 f, .int .u64 q, .int .u64 t, .string d, .int .i64 k] 51 (0, 0); rwa [World.size_alloc] at this, (Kq.below_alloc _ _).trans ((Kq.below_alloc _ _).mono (by simp))⟩
  generalize (w.alloc (Obj.cells #[Value.int IntKind.i64 f, Value.int IntKind.u64 q, Value.int IntKind.u64 t, Value.string d] 44)).alloc (Obj.cells #[Value.int IntKind.i64 f, Value.int IntKind.u64 q, Value.int IntKind.u64 t, Value.string d, Value.int IntKind.i64 k] 51) = wl at *
  have r0 := Kq.blk_cell HD.out.1 0
  have r1 := Kq.blk_cell HD.out.1 1
  have r2 := Kq.blk_cell HD.out.1 2
  have r3 := Kq.blk_cell HD.out.1 3
  have r4 := Kq.blk_cell HD.out.1 4
  simp only [List.getElem?_toArray, List.getElem?_cons_zero, List.getElem?_cons_succ] at r0 r1 r2 r3 r4
  refine bodyPost_ret (v := .agg #[.int .i64 f, .int .u64 q, .int .u64 t, .string d, .int .i64 k]) (by simp [results, Tryz.results97, go_sem, r0, r1, r2, r3, r4]) rfl ?_
  exact ⟨rfl, HD.out.2⟩
theorem items_src (n : NtV) (w : World) : Src Tryz.prog 5 26 (.slice (some ⟨w.heap.size, 0, none⟩) 1 1) 1 n.ic (w.alloc (.cells #[.int .i64 n.f, .int .u64 n.q, .int .u64 n.t, .string n.d, .int .i64 n.k] 51)) :=
  Src.ofSlice _ Tryz.underlying26 ⟨w.heap.size, 0, none⟩ 1 1 n.ic (by simp [NtV.ic]) (fun j u hj => Kq.cell_new _ _ _ (by rw [← hj]; simp [NtV.ic])) (fun u hu => by
    simp only [NtV.ic, List.mem_cons, List.not_mem_nil, or_false] at hu
    rcases hu with rfl | rfl | rfl | rfl | rfl <;> rfl)
theorem items_len (n : NtV) : n.ic.length = 5 := rfl
set_option maxRecDepth 100000 in
set_option maxHeartbeats 4000000 in
theorem it_tell (B mb mc : Nat) (marks : List Int) (ns : List NtV) (rest : List Nat) (w : World) (h : RdL w B ([ns.length] ++ (encL ns ++ rest))) (hM : IntsAt w mb marks) (hMB : mb ≠ B) (hms : marks.length ≤ 10) (hwf : ∀ n ∈ ns, n.wf) (hns : ns.length ≤ 255) (hok : ∀ n ∈ ns, EnOk marks n) (hm : ∀ m ∈ marks, 0 ≤ m ∧ m ≤ 255) :
    Calls Tryz.prog 98 #[.pointer (some ⟨B, 0, none⟩), .func (.func 97) #[] #[], .slice (some ⟨mb, 0, none⟩) marks.length mc] w (TellPostN NtV.ic w B ns rest) := by
  obtain ⟨i0, hi, hz0, hz1, hz2⟩ := info_parts infoItN
  have hB := h.lt
  have H := Lib.hid (And.intro h (And.intro hM (And.intro hMB (And.intro hwf (And.intro hok hm)))))
  have HMS := Lib.hid hms
  have HNS := Lib.hid hns
  have HB := Lib.hid hB
  clear h hM hMB hms hwf hok hm hB
  go_enter Tryz.func98, Tryz.ntmps98
  go_wp2_with fail
  refine (rl_byte B ns.length _ w H.out.1).mono ?_
  rintro x w1 ⟨rfl, R1, K1⟩
  have H1 := Lib.hid (And.intro R1 K1)
  clear R1 K1
  go_wp2
  go_loopw [7, 12] (fun u i wr => ∃ (j : Nat) (v : Value), j ≤ ns.length ∧ i = .int .i64 (j : Int) ∧ v = u ∧ wr.ownsRow w.heap.size 51 5 v j (ecells NtV.ic (ns.take j)) ∧ RdL wr B (encL (ns.drop j) ++ rest) ∧ Kq.Keeps (· = B) w wr) (fun _ i _ => ns.length - (intOf i).toNat)
  case atStart => exact ⟨0, _, by omega, rfl, rfl, ⟨rfl, Or.inl ⟨rfl, rfl⟩⟩, H1.out.1, H1.out.2⟩
  case round =>
    obtain ⟨j, v, hj, rfl, rfl, hown, hR, hK⟩ := hrel
    have hns' := HNS.out
    by_cases hlt : j < ns.length
    · obtain ⟨n, hn⟩ : ∃ n, n = ns[j] := ⟨_, rfl⟩
      have hmem : n ∈ ns := by rw [hn]; exact List.getElem_mem _
      have hEn := H.out.2.2.2.2.1 n hmem
      have hk := H.out.2.2.2.2.2 n.k hEn.1
      have hdrop : encL (ns.drop j) ++ rest = [n.k.toNat] ++ (encP n.p ++ (encL (ns.drop (j + 1)) ++ rest)) := by
        rw [List.drop_eq_getElem_cons hlt, ← hn]
        simp [encL, encE, List.append_assoc]
      rw [hdrop] at hR
      have HS : Hid (ecells NtV.ic (ns.take (j + 1)) = ecells NtV.ic (ns.take j) ++ n.ic) := Lib.hid (by rw [List.take_succ_eq_append_getElem hlt, ecells_snoc, hn])
      have HE := Lib.hid (And.intro hEn (And.intro hk (H.out.2.2.2.1 n hmem)))
      have HQ := Lib.hid (And.intro hown (And.intro hR hK))
      have HLT := Lib.hid hlt
      clear hdrop hmem hEn hk hn hown hR hK
      obtain ⟨k, f, q, t, d⟩ := n
      simp only at HQ HE
      obtain ⟨kn, rfl⟩ := Int.eq_ofNat_of_zero_le HE.out.2.1.1
      rw [Int.toNat_natCast] at HQ
      go_wp2_with fail
      refine (rl_byte B kn _ wr HQ.out.2.1).mono ?_
      rintro x w2 ⟨rfl, R2, K2⟩
      have H2 := Lib.hid (And.intro R2 (And.intro (HQ.out.2.2.trans K2) (And.intro (own_later HQ.out.1 (fun g hg => K2.block g (HQ.out.1.lt g hg).2 (fun e => by have h1 := own_ge HQ.out.1 hg; have h2 := HB.out; omega))) (Nat.le_trans HQ.out.2.2.size K2.size))))
      clear R2 K2 HQ
      go_wp2_with fail
      refine (rl_get B ⟨f, q, t, d⟩ HE.out.1.2 HE.out.2.2.1 HE.out.2.2.2 _ w2 H2.out.1).mono ?_
      rintro x w3 ⟨rfl, R3, K3⟩
      have H3 := Lib.hid (And.intro R3 (And.intro (H2.out.2.1.trans K3) (And.intro (own_later H2.out.2.2.1 (fun g hg => K3.block g (H2.out.2.2.1.lt g hg).2 (fun e => by have h1 := own_ge H2.out.2.2.1 hg; have h2 := HB.out; omega))) (Nat.le_trans H2.out.2.2.2 K3.size))))
      clear R3 K3 H2
      have H4 : Hid (IntsAt (w3.alloc (Obj.cells #[Value.int IntKind.i64 f, Value.int IntKind.u64 q, Value.int IntKind.u64 t, Value.string d] 44)) mb marks ∧ PB (w3.alloc (Obj.cells #[Value.int IntKind.i64 f, Value.int IntKind.u64 q, Value.int IntKind.u64 t, Value.string d] 44)) w3.heap.size f q t d ∧ Below w3.heap.size w3 (w3.alloc (Obj.cells #[Value.int IntKind.i64 f, Value.int IntKind.u64 q, Value.int IntKind.u64 t, Value.string d] 44))) :=
        Lib.hid ⟨(H.out.2.1.keeps H3.out.2.1 H.out.2.2.1).below (Kq.below_alloc _ _), ⟨Kq.blk_new _ _ _ _⟩, Kq.below_alloc _ _⟩
      have dm : decide ((kn : Int) ∈ marks) = true := decide_eq_true HE.out.1.1
      have hmsl := HMS.out
      go_wp2_with fail
      refine (nt_contains mb mc marks kn _ H4.out.1.1 (by unfold maxLen; omega) H4.out.1.2).mono ?_
      rintro x w5 ⟨rfl, b5⟩
      rw [dm]
      have H5 : Hid (Below w3.heap.size w3 w5 ∧ PB w5 w3.heap.size f q t d ∧ RdL w5 B (encL (ns.drop (j + 1)) ++ rest)) := Lib.hid (by
        have hb := H4.out.2.2.trans (b5.mono H4.out.2.2.size)
        exact ⟨hb, ⟨Kq.below_blk b5 H4.out.2.1.blk (Kq.blk_lt H4.out.2.1.blk)⟩, H3.out.1.below hb⟩)
      clear b5 H4 dm hmsl
      go_wp2_with fail
      refine (rl_err B _ w5 H5.out.2.2).mono ?_
      rintro x w6 ⟨rfl, rfl⟩
      have c0 := H5.out.2.1.c0
      have c1 := H5.out.2.1.c1
      have c2 := H5.out.2.1.c2
      have c3 := H5.out.2.1.c3
      go_wp2_with fail
      refine (it_whole ⟨kn, f, q, t, d⟩ w5).mono ?_
      rintro x w6 ⟨rfl, b6⟩
      have H6 : Hid (Below w3.heap.size w3 w6) := Lib.hid (H5.out.1.trans (b6.mono H5.out.1.size))
      clear b6 H5 c0 c1 c2 c3
      have H7 : Hid ((w6.alloc (.cells #[.int .i64 f, .int .u64 q, .int .u64 t, .string d, .int .i64 kn] 51)).ownsRow w.heap.size 51 5 v j (ecells NtV.ic (ns.take j)) ∧ Below w3.heap.size w3 (w6.alloc (.cells #[.int .i64 f, .int .u64 q, .int .u64 t, .string d, .int .i64 kn] 51)) ∧ w.heap.size ≤ (w6.alloc (.cells #[.int .i64 f, .int .u64 q, .int .u64 t, .string d, .int .i64 kn] 51)).heap.size) := Lib.hid (by
        have hb : Below w3.heap.size w3 (w6.alloc (.cells #[.int .i64 f, .int .u64 q, .int .u64 t, .string d, .int .i64 kn] 51)) := H6.out.trans ((Kq.below_alloc _ _).mono H6.out.size)
        exact ⟨own_later H3.out.2.2.1 (fun g hg => hb.block g (H3.out.2.2.1.lt g hg).2), hb, Nat.le_trans H3.out.2.2.2 hb.size⟩)
      go_wp2_with (at_builtin; refine Kq.wpList_append_any _ rfl (.tmp 31) (.tmp 36) 26 26 rfl w.heap.size 51 i0 (.agg #[.int .i64 0, .int .u64 0, .int .u64 0, .string ⟨#[]⟩, .int .i64 0]) 5 48 Tryz.underlying26 hi hz0 hz1 hz2 rfl (by decide) v j (ecells NtV.ic (ns.take j)) rfl H7.out.1 (.slice (some ⟨w6.heap.size, 0, none⟩) 1 1) 1 (NtV.ic ⟨kn, f, q, t, d⟩) rfl ?hs ?h1 ?h2 ?h3 ?_)
      case hs => exact items_src ⟨kn, f, q, t, d⟩ w6
      case h1 => unfold maxLen; omega
      case h2 => omega
      case h3 => exact H7.out.2.2
      intro v' w8 hown8 hgrow hfresh
      have H8 : Hid (w8.ownsRow w.heap.size 51 5 v' (j + 1) (ecells NtV.ic (ns.take (j + 1))) ∧ RdL w8 B (encL (ns.drop (j + 1)) ++ rest) ∧ Kq.Keeps (· = B) w w8) := Lib.hid (by
        have hv : ∀ g, v.ownBlock = some g → w.heap.size ≤ g := fun g hg => own_ge H7.out.1 hg
        have k8 : Kq.Keeps (fun g => w.heap.size ≤ g) (w6.alloc (.cells #[.int .i64 f, .int .u64 q, .int .u64 t, .string d, .int .i64 kn] 51)) w8 := Kq.Keeps.grown hgrow (fun k _ hk => hv k hk)
        have k7 : Kq.Keeps (fun g => w.heap.size ≤ g) w3 (w6.alloc (.cells #[.int .i64 f, .int .u64 q, .int .u64 t, .string d, .int .i64 kn] 51)) := Kq.Keeps.of_below H7.out.2.1 (fun k h1 h2 => absurd h2 (Nat.not_lt.2 h1))
        refine ⟨by rw [HS.out]; exact hown8, H3.out.1.keeps (k7.trans k8) (Nat.not_le.2 HB.out), ?_⟩
        have k3 := H3.out.2.1
        refine ⟨(k7.trans k8).os.trans k3.os, (k7.trans k8).tape.trans k3.tape, (k7.trans k8).output.trans k3.output, Nat.le_trans k3.size (k7.trans k8).size, fun g hg hn => ?_⟩
        rw [(k7.trans k8).block g (Nat.lt_of_lt_of_le hg k3.size) (Nat.not_le.2 hg), k3.block g hg hn])
      clear hown8 hgrow hfresh H7 H6 H3 HE
      go_wp2
      go_roundw
      case rel => exact ⟨j + 1, v', HLT.out, by go_num, rfl, H8.out.1, H8.out.2.1, H8.out.2.2⟩
      case measure => have := HLT.out; simp [intOf]; omega
    · obtain rfl : j = ns.length := by omega
      have HP : Hid (∀ vv, vv = v → TellPostN NtV.ic w B ns rest (.returned vv) wr) := Lib.hid (fun vv hvv => by
        rw [List.take_length] at hown
        obtain ⟨A, cap, hv, hE, hF⟩ := row_ens items_len hown
        rw [List.drop_length] at hR
        exact ⟨A, cap, by rw [hvv, hv], hE, by simpa [encL] using hR, hK, hF⟩)
      clear hown hR hK
      go_wp2
      go_ret
      exact HP.out _ rfl
set_option maxRecDepth 100000 in
set_option maxHeartbeats 2000000 in
theorem it_itemsN (B : Nat) (ns : List NtV) (rest : List Nat) (w : World) (h : RdL w B ([ns.length] ++ (encL ns ++ rest))) (hwf : ∀ n ∈ ns, n.wf) (hns : ns.length ≤ 255) (hok : ∀ n ∈ ns, EnOk [1, 2] n) :
    Calls Tryz.prog 77 #[.pointer (some ⟨B, 0, none⟩)] w (TellPostN NtV.ic w B ns rest) := by
  have hb := Kq.below_alloc w (.cells #[.int .i64 1, .int .i64 2] 3)
  have hM : IntsAt (w.alloc (.cells #[.int .i64 1, .int .i64 2] 3)) w.heap.size [1, 2] := by
    refine ⟨by simp, fun j hj => ?_⟩
    have hj' : j < 2 := hj
    rw [Kq.blk_cell (Kq.blk_new w _ _ _) j]
    match j, hj' with
    | 0, _ => rfl
    | 1, _ => rfl
  have H := Lib.hid (And.intro (h.below hb) (And.intro hM (And.intro (Ne.symm (Nat.ne_of_lt h.lt)) (And.intro hwf (And.intro hns (And.intro hok hb))))))
  have HB := Lib.hid h.lt
  clear h hM hwf hns hok hb
  go_enter Tryz.func77, Tryz.ntmps77
  go_wp2_with fail
  refine (it_tell B w.heap.size 2 [1, 2] ns rest _ H.out.1 H.out.2.1 H.out.2.2.1 (by decide) H.out.2.2.2.1 H.out.2.2.2.2.1 H.out.2.2.2.2.2.1 (by decide)).mono ?_
  rintro x w2 ⟨A, cap, rfl, hE, hR, hK, hF⟩
  have HP : Hid (TellPostN NtV.ic w B ns rest (.returned (.slice A ns.length cap)) w2) := Lib.hid ⟨A, cap, rfl, hE, hR, (Kq.Keeps.of_below H.out.2.2.2.2.2.2 (fun k h1 h2 => absurd h2 (Nat.not_lt.2 h1))).trans hK, fun b off e => Nat.le_trans H.out.2.2.2.2.2.2.size (hF b off e)⟩
  clear hE hR hK hF
  go_wp2
  go_ret
  exact HP.out
theorem nt_notes (B : Nat) (ns : List NtV) (rest : List Nat) (w : World) (h : RdL w B ([ns.length] ++ (encL ns ++ rest))) (hwf : ∀ n ∈ ns, n.wf) (hns : ns.length ≤ 255) (hok : ∀ n ∈ ns, EnOk [1, 2, 3, 4] n) :
    Calls Tryz.prog 78 #[.pointer (some ⟨B, 0, none⟩)] w (TellPost NtV.nc w B ns rest) :=
  (nt_notesN B ns rest w h hwf hns hok).mono (fun x w' hx => by
    obtain ⟨A, cap, e, hE, hR, hK, _⟩ := hx
    exact ⟨A, cap, e, hE, hR, hK⟩)
theorem it_items (B : Nat) (ns : List NtV) (rest : List Nat) (w : World) (h : RdL w B ([ns.length] ++ (encL ns ++ rest))) (hwf : ∀ n ∈ ns, n.wf) (hns : ns.length ≤ 255) (hok : ∀ n ∈ ns, EnOk [1, 2] n) :
    Calls Tryz.prog 77 #[.pointer (some ⟨B, 0, none⟩)] w (TellPost NtV.ic w B ns rest) :=
  (it_itemsN B ns rest w h hwf hns hok).mono (fun x w' hx => by
    obtain ⟨A, cap, e, hE, hR, hK, _⟩ := hx
    exact ⟨A, cap, e, hE, hR, hK⟩)
end Go.Proofs.YtkbiolhcpghmkaaGreat
