/- Contracts of note.Notes and note.Items on a beginning of a list's own bytes, and of what is behind. Condition: what stands there. -/
import Derived.WalkSpells
import Derived.Test.YtkbiolhcpghmkaaNtCutPQ
import Derived.Test.YtkbiolhcpghmkaaNtTellQ
namespace Go.Proofs.Ytkbiolhcpghmkaa
open Go.RowKit
set_option linter.unusedVariables false
/-- what is told of a beginning of a list -/
def XL (w : World) (B : Nat) (ns : List NtV) (rest : List Nat) (x : Ending) (w' : World) : Prop :=
  ∃ A n cap, x = .returned (.slice A n cap) ∧ n ≤ ns.length ∧ Kq.Keeps (· = B) w w' ∧ RdX w' B rest
theorem keeps_belowX {w w2 w3 : World} {B : Nat} (h : Kq.Keeps (· = B) w w2) (k : Below w2.heap.size w2 w3) : Kq.Keeps (· = B) w w3 :=
  h.trans (Kq.Keeps.of_below k (fun k h1 h2 => absurd h2 (Nat.not_lt.2 h1)))
set_option maxRecDepth 100000 in
set_option maxHeartbeats 4000000 in
theorem x_nttell (B mb mc : Nat) (marks : List Int) (ns : List NtV) (rest : List Nat) (w : World) (h : RdX w B ([ns.length] ++ (encL ns ++ rest))) (hM : IntsAt w mb marks) (hMB : mb ≠ B) (hms : marks.length ≤ 10) (hwf : ∀ n ∈ ns, n.wf) (hns : ns.length ≤ 255) (hok : ∀ n ∈ ns, EnOk marks n) (hm : ∀ m ∈ marks, 0 ≤ m ∧ m ≤ 255) :
    Calls Try.prog 73 #[.pointer (some ⟨B, 0, none⟩), .func (.func 72) #[] #[], .slice (some ⟨mb, 0, none⟩) marks.length mc] w (XL w B ns rest) := by
  obtain ⟨i0, hi, hz0, hz1, hz2⟩ := info_parts infoNt
  have hB := h.lt
  have H := Lib.hid (And.intro h (And.intro hM (And.intro hMB (And.intro hwf (And.intro hok hm)))))
  have HMS := Lib.hid hms
  have HNS := Lib.hid hns
  have HB := Lib.hid hB
  clear h hM hMB hms hwf hok hm hB hns
  go_enter Try.func73, Try.ntmps73
  go_wp2_with fail
  refine (x_byte B ns.length _ w H.out.1).mono ?_
  rintro x w1 ⟨k0, rfl, K1, R1⟩
  have H1 : Hid (Kq.Keeps (· = B) w w1 ∧ ((k0 = ns.length ∧ RdB w1 B (encL ns ++ rest)) ∨ (k0 = 0 ∧ RdS w1 B)) ∧ k0 ≤ ns.length) := Lib.hid ⟨K1, R1, by rcases R1 with ⟨e, _⟩ | ⟨e, _⟩ <;> omega⟩
  have hk0 : k0 ≤ 255 := by have h1 := HNS.out; have h2 := H1.out.2.2; omega
  clear R1 K1
  go_wp2
  go_loopw [7, 12] (fun u i wr => ∃ (j : Nat) (v : Value), j ≤ k0 ∧ i = .int .i64 (j : Int) ∧ v = u ∧ wr.ownsRow w.heap.size 53 5 v j (ecells NtV.nc (ns.take j)) ∧ ((k0 = ns.length ∧ RdB wr B (encL (ns.drop j) ++ rest)) ∨ (k0 = 0 ∧ RdS wr B)) ∧ Kq.Keeps (· = B) w wr) (fun _ i _ => k0 - (intOf i).toNat)
  case atStart => exact ⟨0, _, by omega, rfl, rfl, ⟨rfl, Or.inl ⟨rfl, rfl⟩⟩, H1.out.2.1, H1.out.1⟩
  case round =>
    obtain ⟨j, v, hj, rfl, rfl, hown, hR, hK⟩ := hrel
    by_cases hlt : j < k0
    · have hRB : RdB wr B (encL (ns.drop j) ++ rest) := by
        rcases hR with ⟨e, g⟩ | ⟨e, g⟩
        · exact g
        · omega
      have hk0n : k0 = ns.length := by
        rcases hR with ⟨e, g⟩ | ⟨e, g⟩
        · exact e
        · omega
      have hltn : j < ns.length := by omega
      have HKN := Lib.hid hk0n
      clear hR hk0n
      obtain ⟨n, hn⟩ : ∃ n, n = ns[j] := ⟨_, rfl⟩
      have hmem : n ∈ ns := by rw [hn]; exact List.getElem_mem _
      have hEn := H.out.2.2.2.2.1 n hmem
      have hk := H.out.2.2.2.2.2 n.k hEn.1
      have hdrop : encL (ns.drop j) ++ rest = [n.k.toNat] ++ (encP n.p ++ (encL (ns.drop (j + 1)) ++ rest)) := by
        rw [List.drop_eq_getElem_cons hltn, ← hn]
        simp [encL, encE, List.append_assoc]
      rw [hdrop] at hRB
      have HS : Hid (ecells NtV.nc (ns.take (j + 1)) = ecells NtV.nc (ns.take j) ++ n.nc) := Lib.hid (by rw [List.take_succ_eq_append_getElem hltn, ecells_snoc, hn])
      have HE := Lib.hid (And.intro hEn (And.intro hk (H.out.2.2.2.1 n hmem)))
      have HQ := Lib.hid (And.intro hown (And.intro hRB hK))
      have HLT := Lib.hid hlt
      clear hdrop hmem hEn hk hn hown hRB hK hltn
      obtain ⟨k, f, q, t, d⟩ := n
      simp only at HQ HE
      obtain ⟨kn, rfl⟩ := Int.eq_ofNat_of_zero_le HE.out.2.1.1
      rw [Int.toNat_natCast] at HQ
      go_wp2_with fail
      refine (xb_byte B kn _ wr HQ.out.2.1).mono ?_
      rintro x w2 ⟨mk, rfl, K2, ⟨rfl, R2⟩ | ⟨rfl, R2⟩⟩
      case inr =>
        have H2 := Lib.hid (And.intro R2 (HQ.out.2.2.trans K2))
        clear R2 K2 HQ
        go_wp2_with fail
        refine (xs_get B w2 H2.out.1).mono ?_
        rintro x w3 ⟨rfl, K3, R3⟩
        have H3 := Lib.hid (And.intro R3 (H2.out.2.trans K3))
        clear R3 K3 H2
        have H4 : Hid (IntsAt (w3.alloc (.cells #[.int .i64 0, .int .u64 0, .int .u64 0, .string ⟨#[]⟩] 51)) mb marks ∧ PB (w3.alloc (.cells #[.int .i64 0, .int .u64 0, .int .u64 0, .string ⟨#[]⟩] 51)) w3.heap.size 0 0 0 ⟨#[]⟩ ∧ Below w3.heap.size w3 (w3.alloc (.cells #[.int .i64 0, .int .u64 0, .int .u64 0, .string ⟨#[]⟩] 51))) :=
          Lib.hid ⟨(H.out.2.1.keeps H3.out.2 H.out.2.2.1).below (Kq.below_alloc _ _), ⟨Kq.blk_new _ _ _ _⟩, Kq.below_alloc _ _⟩
        simp only [PkV.zero, PkV.val]
        obtain ⟨dmv, hdm⟩ : ∃ z, z = decide ((0 : Int) ∈ marks) := ⟨_, rfl⟩
        go_wp2_with fail
        refine (nt_contains mb mc marks 0 _ H4.out.1.1 (by have := HMS.out; unfold maxLen; omega) H4.out.1.2).mono ?_
        rintro x w5 ⟨rfl, b5⟩
        rw [← hdm]
        clear hdm
        have H5 : Hid (RdS w5 B ∧ Kq.Keeps (· = B) w w5) := Lib.hid (by
          have hb := H4.out.2.2.trans (b5.mono H4.out.2.2.size)
          exact ⟨H3.out.1.below hb, (keeps_belowX H3.out.2 hb)⟩)
        clear b5 H4
        cases dmv with
        | true =>
          go_wp2_with fail
          refine (xs_err B w5 H5.out.1).mono ?_
          rintro x w6 ⟨rfl, rfl⟩
          go_wp2
          go_ret
          exact ⟨none, 0, 0, rfl, Nat.zero_le _, H5.out.2, Or.inr H5.out.1⟩
        | false =>
          go_wp2_with fail
          refine (xs_fail B 5 w5 H5.out.1).mono ?_
          rintro x w6 ⟨rfl, rfl⟩
          go_wp2_with fail
          refine (xs_err B w5 H5.out.1).mono ?_
          rintro x w6 ⟨rfl, rfl⟩
          go_wp2
          go_ret
          exact ⟨none, 0, 0, rfl, Nat.zero_le _, H5.out.2, Or.inr H5.out.1⟩
      have H2 := Lib.hid (And.intro R2 (And.intro (HQ.out.2.2.trans K2) (And.intro (own_later HQ.out.1 (fun g hg => K2.block g (HQ.out.1.lt g hg).2 (fun e => by have h1 := own_ge HQ.out.1 hg; have h2 := HB.out; omega))) (Nat.le_trans HQ.out.2.2.size K2.size))))
      clear R2 K2 HQ
      go_wp2_with fail
      refine (xb_get B ⟨f, q, t, d⟩ HE.out.1.2 HE.out.2.2.1 HE.out.2.2.2 _ w2 H2.out.1).mono ?_
      rintro x w3 ⟨K3, ⟨rfl, R3⟩ | ⟨rfl, R3⟩⟩
      case inr =>
        have H3 := Lib.hid (And.intro R3 (H2.out.2.1.trans K3))
        clear R3 K3 H2
        have H4 : Hid (IntsAt (w3.alloc (.cells #[.int .i64 0, .int .u64 0, .int .u64 0, .string ⟨#[]⟩] 51)) mb marks ∧ PB (w3.alloc (.cells #[.int .i64 0, .int .u64 0, .int .u64 0, .string ⟨#[]⟩] 51)) w3.heap.size 0 0 0 ⟨#[]⟩ ∧ Below w3.heap.size w3 (w3.alloc (.cells #[.int .i64 0, .int .u64 0, .int .u64 0, .string ⟨#[]⟩] 51))) :=
          Lib.hid ⟨(H.out.2.1.keeps H3.out.2 H.out.2.2.1).below (Kq.below_alloc _ _), ⟨Kq.blk_new _ _ _ _⟩, Kq.below_alloc _ _⟩
        simp only [PkV.zero, PkV.val]
        obtain ⟨dmv, hdm⟩ : ∃ z, z = decide ((mk : Int) ∈ marks) := ⟨_, rfl⟩
        go_wp2_with fail
        refine (nt_contains mb mc marks mk _ H4.out.1.1 (by have := HMS.out; unfold maxLen; omega) H4.out.1.2).mono ?_
        rintro x w5 ⟨rfl, b5⟩
        rw [← hdm]
        clear hdm
        have H5 : Hid (RdS w5 B ∧ Kq.Keeps (· = B) w w5) := Lib.hid (by
          have hb := H4.out.2.2.trans (b5.mono H4.out.2.2.size)
          exact ⟨H3.out.1.below hb, (keeps_belowX H3.out.2 hb)⟩)
        clear b5 H4
        cases dmv with
        | true =>
          go_wp2_with fail
          refine (xs_err B w5 H5.out.1).mono ?_
          rintro x w6 ⟨rfl, rfl⟩
          go_wp2
          go_ret
          exact ⟨none, 0, 0, rfl, Nat.zero_le _, H5.out.2, Or.inr H5.out.1⟩
        | false =>
          go_wp2_with fail
          refine (xs_fail B 5 w5 H5.out.1).mono ?_
          rintro x w6 ⟨rfl, rfl⟩
          go_wp2_with fail
          refine (xs_err B w5 H5.out.1).mono ?_
          rintro x w6 ⟨rfl, rfl⟩
          go_wp2
          go_ret
          exact ⟨none, 0, 0, rfl, Nat.zero_le _, H5.out.2, Or.inr H5.out.1⟩
      have H3 := Lib.hid (And.intro R3 (And.intro (H2.out.2.1.trans K3) (And.intro (own_later H2.out.2.2.1 (fun g hg => K3.block g (H2.out.2.2.1.lt g hg).2 (fun e => by have h1 := own_ge H2.out.2.2.1 hg; have h2 := HB.out; omega))) (Nat.le_trans H2.out.2.2.2 K3.size))))
      clear R3 K3 H2
      have H4 : Hid (IntsAt (w3.alloc (Obj.cells #[Value.int IntKind.i64 f, Value.int IntKind.u64 q, Value.int IntKind.u64 t, Value.string d] 51)) mb marks ∧ PB (w3.alloc (Obj.cells #[Value.int IntKind.i64 f, Value.int IntKind.u64 q, Value.int IntKind.u64 t, Value.string d] 51)) w3.heap.size f q t d ∧ Below w3.heap.size w3 (w3.alloc (Obj.cells #[Value.int IntKind.i64 f, Value.int IntKind.u64 q, Value.int IntKind.u64 t, Value.string d] 51))) :=
        Lib.hid ⟨(H.out.2.1.keeps H3.out.2.1 H.out.2.2.1).below (Kq.below_alloc _ _), ⟨Kq.blk_new _ _ _ _⟩, Kq.below_alloc _ _⟩
      have dm : decide ((mk : Int) ∈ marks) = true := decide_eq_true HE.out.1.1
      have hmsl := HMS.out
      go_wp2_with fail
      refine (nt_contains mb mc marks mk _ H4.out.1.1 (by unfold maxLen; omega) H4.out.1.2).mono ?_
      rintro x w5 ⟨rfl, b5⟩
      rw [dm]
      have H5 : Hid (Below w3.heap.size w3 w5 ∧ PB w5 w3.heap.size f q t d ∧ RdB w5 B (encL (ns.drop (j + 1)) ++ rest)) := Lib.hid (by
        have hb := H4.out.2.2.trans (b5.mono H4.out.2.2.size)
        exact ⟨hb, ⟨Kq.below_blk b5 H4.out.2.1.blk (Kq.blk_lt H4.out.2.1.blk)⟩, H3.out.1.below hb⟩)
      clear b5 H4 dm hmsl
      go_wp2_with fail
      refine (xb_err B _ w5 H5.out.2.2).mono ?_
      rintro x w6 ⟨rfl, rfl⟩
      have c0 := H5.out.2.1.c0
      have c1 := H5.out.2.1.c1
      have c2 := H5.out.2.1.c2
      have c3 := H5.out.2.1.c3
      go_wp2_with fail
      refine (nt_whole ⟨mk, f, q, t, d⟩ w5).mono ?_
      rintro x w6 ⟨rfl, b6⟩
      have H6 : Hid (Below w3.heap.size w3 w6) := Lib.hid (H5.out.1.trans (b6.mono H5.out.1.size))
      clear b6 H5 c0 c1 c2 c3
      have H7 : Hid ((w6.alloc (.cells #[.int .i64 mk, .int .i64 f, .int .u64 q, .int .u64 t, .string d] 53)).ownsRow w.heap.size 53 5 v j (ecells NtV.nc (ns.take j)) ∧ Below w3.heap.size w3 (w6.alloc (.cells #[.int .i64 mk, .int .i64 f, .int .u64 q, .int .u64 t, .string d] 53)) ∧ w.heap.size ≤ (w6.alloc (.cells #[.int .i64 mk, .int .i64 f, .int .u64 q, .int .u64 t, .string d] 53)).heap.size) := Lib.hid (by
        have hb : Below w3.heap.size w3 (w6.alloc (.cells #[.int .i64 mk, .int .i64 f, .int .u64 q, .int .u64 t, .string d] 53)) := H6.out.trans ((Kq.below_alloc _ _).mono H6.out.size)
        exact ⟨own_later H3.out.2.2.1 (fun g hg => hb.block g (H3.out.2.2.1.lt g hg).2), hb, Nat.le_trans H3.out.2.2.2 hb.size⟩)
      go_wp2_with (at_builtin; refine Kq.wpList_append_any _ rfl (.tmp 31) (.tmp 36) 33 33 rfl w.heap.size 53 i0 (.agg #[.int .i64 0, .int .i64 0, .int .u64 0, .int .u64 0, .string ⟨#[]⟩]) 5 48 Try.underlying33 hi hz0 hz1 hz2 rfl (by decide) v j (ecells NtV.nc (ns.take j)) rfl H7.out.1 (.slice (some ⟨w6.heap.size, 0, none⟩) 1 1) 1 (NtV.nc ⟨mk, f, q, t, d⟩) rfl ?hs ?h1 ?h2 ?h3 ?_)
      case hs => exact notes_src ⟨mk, f, q, t, d⟩ w6
      case h1 => unfold maxLen; omega
      case h2 => omega
      case h3 => exact H7.out.2.2
      intro v' w8 hown8 hgrow hfresh
      have H8 : Hid (w8.ownsRow w.heap.size 53 5 v' (j + 1) (ecells NtV.nc (ns.take (j + 1))) ∧ RdB w8 B (encL (ns.drop (j + 1)) ++ rest) ∧ Kq.Keeps (· = B) w w8) := Lib.hid (by
        have hv : ∀ g, v.ownBlock = some g → w.heap.size ≤ g := fun g hg => own_ge H7.out.1 hg
        have k8 : Kq.Keeps (fun g => w.heap.size ≤ g) (w6.alloc (.cells #[.int .i64 mk, .int .i64 f, .int .u64 q, .int .u64 t, .string d] 53)) w8 := Kq.Keeps.grown hgrow (fun k _ hk => hv k hk)
        have k7 : Kq.Keeps (fun g => w.heap.size ≤ g) w3 (w6.alloc (.cells #[.int .i64 mk, .int .i64 f, .int .u64 q, .int .u64 t, .string d] 53)) := Kq.Keeps.of_below H7.out.2.1 (fun k h1 h2 => absurd h2 (Nat.not_lt.2 h1))
        refine ⟨by rw [HS.out]; exact hown8, H3.out.1.keeps (k7.trans k8) (Nat.not_le.2 HB.out), ?_⟩
        have k3 := H3.out.2.1
        refine ⟨(k7.trans k8).os.trans k3.os, (k7.trans k8).tape.trans k3.tape, (k7.trans k8).output.trans k3.output, Nat.le_trans k3.size (k7.trans k8).size, fun g hg hn => ?_⟩
        rw [(k7.trans k8).block g (Nat.lt_of_lt_of_le hg k3.size) (Nat.not_le.2 hg), k3.block g hg hn])
      clear hown8 hgrow hfresh H7 H6 H3 HE
      go_wp2
      go_roundw
      case rel => exact ⟨j + 1, v', HLT.out, by go_num, rfl, H8.out.1, Or.inl ⟨HKN.out, H8.out.2.1⟩, H8.out.2.2⟩
      case measure => have := HLT.out; simp [intOf]; omega
    · obtain rfl : j = k0 := by omega
      have HP : Hid (∀ vv, vv = v → XL w B ns rest (.returned vv) wr) := Lib.hid (fun vv hvv => by
        have hl : (ns.take j).length = j := by rw [List.length_take]; have := H1.out.2.2; omega
        have hown' : wr.ownsRow w.heap.size 53 5 v (ns.take j).length (ecells NtV.nc (ns.take j)) := by rw [hl]; exact hown
        obtain ⟨A, cap, hv, hE, hF⟩ := row_ens notes_len hown'
        refine ⟨A, _, cap, by rw [hvv, hv], by rw [hl]; exact H1.out.2.2, hK, ?_⟩
        rcases hR with ⟨e, g⟩ | ⟨e, g⟩
        · rw [e, List.drop_length] at g
          exact Or.inl (by simpa [encL] using g)
        · exact Or.inr g)
      clear hown hR hK
      go_wp2
      go_ret
      exact HP.out _ rfl
set_option maxRecDepth 100000 in
set_option maxHeartbeats 2000000 in
theorem x_notes (B : Nat) (ns : List NtV) (rest : List Nat) (w : World) (h : RdX w B ([ns.length] ++ (encL ns ++ rest))) (hwf : ∀ n ∈ ns, n.wf) (hns : ns.length ≤ 255) (hok : ∀ n ∈ ns, EnOk [1, 2, 3, 4] n) :
    Calls Try.prog 57 #[.pointer (some ⟨B, 0, none⟩)] w (XL w B ns rest) := by
  have hb := Kq.below_alloc w (.cells #[.int .i64 1, .int .i64 2, .int .i64 3, .int .i64 4] 3)
  have hM : IntsAt (w.alloc (.cells #[.int .i64 1, .int .i64 2, .int .i64 3, .int .i64 4] 3)) w.heap.size [1, 2, 3, 4] := by
    refine ⟨by simp, fun j hj => ?_⟩
    have hj' : j < 4 := hj
    rw [Kq.blk_cell (Kq.blk_new w _ _ _) j]
    match j, hj' with
    | 0, _ => rfl
    | 1, _ => rfl
    | 2, _ => rfl
    | 3, _ => rfl
  have H := Lib.hid (And.intro (h.below hb) (And.intro hM (And.intro (Ne.symm (Nat.ne_of_lt h.lt)) (And.intro hwf (And.intro hns (And.intro hok hb))))))
  clear h hM hwf hns hok hb
  go_enter Try.func57, Try.ntmps57
  go_wp2_with fail
  refine (x_nttell B w.heap.size 4 [1, 2, 3, 4] ns rest _ H.out.1 H.out.2.1 H.out.2.2.1 (by decide) H.out.2.2.2.1 H.out.2.2.2.2.1 H.out.2.2.2.2.2.1 (by decide)).mono ?_
  rintro x w2 ⟨A, n, cap, rfl, hn, hK, hR⟩
  have HP : Hid (XL w B ns rest (.returned (.slice A n cap)) w2) := Lib.hid ⟨A, n, cap, rfl, hn, (Kq.Keeps.of_below H.out.2.2.2.2.2.2 (fun k h1 h2 => absurd h2 (Nat.not_lt.2 h1))).trans hK, hR⟩
  clear hK hR hn
  go_wp2
  go_ret
  exact HP.out
set_option maxRecDepth 100000 in
set_option maxHeartbeats 4000000 in
theorem x_ittell (B mb mc : Nat) (marks : List Int) (ns : List NtV) (rest : List Nat) (w : World) (h : RdX w B ([ns.length] ++ (encL ns ++ rest))) (hM : IntsAt w mb marks) (hMB : mb ≠ B) (hms : marks.length ≤ 10) (hwf : ∀ n ∈ ns, n.wf) (hns : ns.length ≤ 255) (hok : ∀ n ∈ ns, EnOk marks n) (hm : ∀ m ∈ marks, 0 ≤ m ∧ m ≤ 255) :
    Calls Try.prog 71 #[.pointer (some ⟨B, 0, none⟩), .func (.func 70) #[] #[], .slice (some ⟨mb, 0, none⟩) marks.length mc] w (XL w B ns rest) := by
  obtain ⟨i0, hi, hz0, hz1, hz2⟩ := info_parts infoItN
  have hB := h.lt
  have H := Lib.hid (And.intro h (And.intro hM (And.intro hMB (And.intro hwf (And.intro hok hm)))))
  have HMS := Lib.hid hms
  have HNS := Lib.hid hns
  have HB := Lib.hid hB
  clear h hM hMB hms hwf hok hm hB hns
  go_enter Try.func71, Try.ntmps71
  go_wp2_with fail
  refine (x_byte B ns.length _ w H.out.1).mono ?_
  rintro x w1 ⟨k0, rfl, K1, R1⟩
  have H1 : Hid (Kq.Keeps (· = B) w w1 ∧ ((k0 = ns.length ∧ RdB w1 B (encL ns ++ rest)) ∨ (k0 = 0 ∧ RdS w1 B)) ∧ k0 ≤ ns.length) := Lib.hid ⟨K1, R1, by rcases R1 with ⟨e, _⟩ | ⟨e, _⟩ <;> omega⟩
  have hk0 : k0 ≤ 255 := by have h1 := HNS.out; have h2 := H1.out.2.2; omega
  clear R1 K1
  go_wp2
  go_loopw [7, 12] (fun u i wr => ∃ (j : Nat) (v : Value), j ≤ k0 ∧ i = .int .i64 (j : Int) ∧ v = u ∧ wr.ownsRow w.heap.size 55 5 v j (ecells NtV.ic (ns.take j)) ∧ ((k0 = ns.length ∧ RdB wr B (encL (ns.drop j) ++ rest)) ∨ (k0 = 0 ∧ RdS wr B)) ∧ Kq.Keeps (· = B) w wr) (fun _ i _ => k0 - (intOf i).toNat)
  case atStart => exact ⟨0, _, by omega, rfl, rfl, ⟨rfl, Or.inl ⟨rfl, rfl⟩⟩, H1.out.2.1, H1.out.1⟩
  case round =>
    obtain ⟨j, v, hj, rfl, rfl, hown, hR, hK⟩ := hrel
    by_cases hlt : j < k0
    · have hRB : RdB wr B (encL (ns.drop j) ++ rest) := by
        rcases hR with ⟨e, g⟩ | ⟨e, g⟩
        · exact g
        · omega
      have hk0n : k0 = ns.length := by
        rcases hR with ⟨e, g⟩ | ⟨e, g⟩
        · exact e
        · omega
      have hltn : j < ns.length := by omega
      have HKN := Lib.hid hk0n
      clear hR hk0n
      obtain ⟨n, hn⟩ : ∃ n, n = ns[j] := ⟨_, rfl⟩
      have hmem : n ∈ ns := by rw [hn]; exact List.getElem_mem _
      have hEn := H.out.2.2.2.2.1 n hmem
      have hk := H.out.2.2.2.2.2 n.k hEn.1
      have hdrop : encL (ns.drop j) ++ rest = [n.k.toNat] ++ (encP n.p ++ (encL (ns.drop (j + 1)) ++ rest)) := by
        rw [List.drop_eq_getElem_cons hltn, ← hn]
        simp [encL, encE, List.append_assoc]
      rw [hdrop] at hRB
      have HS : Hid (ecells NtV.ic (ns.take (j + 1)) = ecells NtV.ic (ns.take j) ++ n.ic) := Lib.hid (by rw [List.take_succ_eq_append_getElem hltn, ecells_snoc, hn])
      have HE := Lib.hid (And.intro hEn (And.intro hk (H.out.2.2.2.1 n hmem)))
      have HQ := Lib.hid (And.intro hown (And.intro hRB hK))
      have HLT := Lib.hid hlt
      clear hdrop hmem hEn hk hn hown hRB hK hltn
      obtain ⟨k, f, q, t, d⟩ := n
      simp only at HQ HE
      obtain ⟨kn, rfl⟩ := Int.eq_ofNat_of_zero_le HE.out.2.1.1
      rw [Int.toNat_natCast] at HQ
      go_wp2_with fail
      refine (xb_byte B kn _ wr HQ.out.2.1).mono ?_
      rintro x w2 ⟨mk, rfl, K2, ⟨rfl, R2⟩ | ⟨rfl, R2⟩⟩
      case inr =>
        have H2 := Lib.hid (And.intro R2 (HQ.out.2.2.trans K2))
        clear R2 K2 HQ
        go_wp2_with fail
        refine (xs_get B w2 H2.out.1).mono ?_
        rintro x w3 ⟨rfl, K3, R3⟩
        have H3 := Lib.hid (And.intro R3 (H2.out.2.trans K3))
        clear R3 K3 H2
        have H4 : Hid (IntsAt (w3.alloc (.cells #[.int .i64 0, .int .u64 0, .int .u64 0, .string ⟨#[]⟩] 51)) mb marks ∧ PB (w3.alloc (.cells #[.int .i64 0, .int .u64 0, .int .u64 0, .string ⟨#[]⟩] 51)) w3.heap.size 0 0 0 ⟨#[]⟩ ∧ Below w3.heap.size w3 (w3.alloc (.cells #[.int .i64 0, .int .u64 0, .int .u64 0, .string ⟨#[]⟩] 51))) :=
          Lib.hid ⟨(H.out.2.1.keeps H3.out.2 H.out.2.2.1).below (Kq.below_alloc _ _), ⟨Kq.blk_new _ _ _ _⟩, Kq.below_alloc _ _⟩
        simp only [PkV.zero, PkV.val]
        obtain ⟨dmv, hdm⟩ : ∃ z, z = decide ((0 : Int) ∈ marks) := ⟨_, rfl⟩
        go_wp2_with fail
        refine (nt_contains mb mc marks 0 _ H4.out.1.1 (by have := HMS.out; unfold maxLen; omega) H4.out.1.2).mono ?_
        rintro x w5 ⟨rfl, b5⟩
        rw [← hdm]
        clear hdm
        have H5 : Hid (RdS w5 B ∧ Kq.Keeps (· = B) w w5) := Lib.hid (by
          have hb := H4.out.2.2.trans (b5.mono H4.out.2.2.size)
          exact ⟨H3.out.1.below hb, (keeps_belowX H3.out.2 hb)⟩)
        clear b5 H4
        cases dmv with
        | true =>
          go_wp2_with fail
          refine (xs_err B w5 H5.out.1).mono ?_
          rintro x w6 ⟨rfl, rfl⟩
          go_wp2
          go_ret
          exact ⟨none, 0, 0, rfl, Nat.zero_le _, H5.out.2, Or.inr H5.out.1⟩
        | false =>
          go_wp2_with fail
          refine (xs_fail B 5 w5 H5.out.1).mono ?_
          rintro x w6 ⟨rfl, rfl⟩
          go_wp2_with fail
          refine (xs_err B w5 H5.out.1).mono ?_
          rintro x w6 ⟨rfl, rfl⟩
          go_wp2
          go_ret
          exact ⟨none, 0, 0, rfl, Nat.zero_le _, H5.out.2, Or.inr H5.out.1⟩
      have H2 := Lib.hid (And.intro R2 (And.intro (HQ.out.2.2.trans K2) (And.intro (own_later HQ.out.1 (fun g hg => K2.block g (HQ.out.1.lt g hg).2 (fun e => by have h1 := own_ge HQ.out.1 hg; have h2 := HB.out; omega))) (Nat.le_trans HQ.out.2.2.size K2.size))))
      clear R2 K2 HQ
      go_wp2_with fail
      refine (xb_get B ⟨f, q, t, d⟩ HE.out.1.2 HE.out.2.2.1 HE.out.2.2.2 _ w2 H2.out.1).mono ?_
      rintro x w3 ⟨K3, ⟨rfl, R3⟩ | ⟨rfl, R3⟩⟩
      case inr =>
        have H3 := Lib.hid (And.intro R3 (H2.out.2.1.trans K3))
        clear R3 K3 H2
        have H4 : Hid (IntsAt (w3.alloc (.cells #[.int .i64 0, .int .u64 0, .int .u64 0, .string ⟨#[]⟩] 51)) mb marks ∧ PB (w3.alloc (.cells #[.int .i64 0, .int .u64 0, .int .u64 0, .string ⟨#[]⟩] 51)) w3.heap.size 0 0 0 ⟨#[]⟩ ∧ Below w3.heap.size w3 (w3.alloc (.cells #[.int .i64 0, .int .u64 0, .int .u64 0, .string ⟨#[]⟩] 51))) :=
          Lib.hid ⟨(H.out.2.1.keeps H3.out.2 H.out.2.2.1).below (Kq.below_alloc _ _), ⟨Kq.blk_new _ _ _ _⟩, Kq.below_alloc _ _⟩
        simp only [PkV.zero, PkV.val]
        obtain ⟨dmv, hdm⟩ : ∃ z, z = decide ((mk : Int) ∈ marks) := ⟨_, rfl⟩
        go_wp2_with fail
        refine (nt_contains mb mc marks mk _ H4.out.1.1 (by have := HMS.out; unfold maxLen; omega) H4.out.1.2).mono ?_
        rintro x w5 ⟨rfl, b5⟩
        rw [← hdm]
        clear hdm
        have H5 : Hid (RdS w5 B ∧ Kq.Keeps (· = B) w w5) := Lib.hid (by
          have hb := H4.out.2.2.trans (b5.mono H4.out.2.2.size)
          exact ⟨H3.out.1.below hb, (keeps_belowX H3.out.2 hb)⟩)
        clear b5 H4
        cases dmv with
        | true =>
          go_wp2_with fail
          refine (xs_err B w5 H5.out.1).mono ?_
          rintro x w6 ⟨rfl, rfl⟩
          go_wp2
          go_ret
          exact ⟨none, 0, 0, rfl, Nat.zero_le _, H5.out.2, Or.inr H5.out.1⟩
        | false =>
          go_wp2_with fail
          refine (xs_fail B 5 w5 H5.out.1).mono ?_
          rintro x w6 ⟨rfl, rfl⟩
          go_wp2_with fail
          refine (xs_err B w5 H5.out.1).mono ?_
          rintro x w6 ⟨rfl, rfl⟩
          go_wp2
          go_ret
          exact ⟨none, 0, 0, rfl, Nat.zero_le _, H5.out.2, Or.inr H5.out.1⟩
      have H3 := Lib.hid (And.intro R3 (And.intro (H2.out.2.1.trans K3) (And.intro (own_later H2.out.2.2.1 (fun g hg => K3.block g (H2.out.2.2.1.lt g hg).2 (fun e => by have h1 := own_ge H2.out.2.2.1 hg; have h2 := HB.out; omega))) (Nat.le_trans H2.out.2.2.2 K3.size))))
      clear R3 K3 H2
      have H4 : Hid (IntsAt (w3.alloc (Obj.cells #[Value.int IntKind.i64 f, Value.int IntKind.u64 q, Value.int IntKind.u64 t, Value.string d] 51)) mb marks ∧ PB (w3.alloc (Obj.cells #[Value.int IntKind.i64 f, Value.int IntKind.u64 q, Value.int IntKind.u64 t, Value.string d] 51)) w3.heap.size f q t d ∧ Below w3.heap.size w3 (w3.alloc (Obj.cells #[Value.int IntKind.i64 f, Value.int IntKind.u64 q, Value.int IntKind.u64 t, Value.string d] 51))) :=
        Lib.hid ⟨(H.out.2.1.keeps H3.out.2.1 H.out.2.2.1).below (Kq.below_alloc _ _), ⟨Kq.blk_new _ _ _ _⟩, Kq.below_alloc _ _⟩
      have dm : decide ((mk : Int) ∈ marks) = true := decide_eq_true HE.out.1.1
      have hmsl := HMS.out
      go_wp2_with fail
      refine (nt_contains mb mc marks mk _ H4.out.1.1 (by unfold maxLen; omega) H4.out.1.2).mono ?_
      rintro x w5 ⟨rfl, b5⟩
      rw [dm]
      have H5 : Hid (Below w3.heap.size w3 w5 ∧ PB w5 w3.heap.size f q t d ∧ RdB w5 B (encL (ns.drop (j + 1)) ++ rest)) := Lib.hid (by
        have hb := H4.out.2.2.trans (b5.mono H4.out.2.2.size)
        exact ⟨hb, ⟨Kq.below_blk b5 H4.out.2.1.blk (Kq.blk_lt H4.out.2.1.blk)⟩, H3.out.1.below hb⟩)
      clear b5 H4 dm hmsl
      go_wp2_with fail
      refine (xb_err B _ w5 H5.out.2.2).mono ?_
      rintro x w6 ⟨rfl, rfl⟩
      have c0 := H5.out.2.1.c0
      have c1 := H5.out.2.1.c1
      have c2 := H5.out.2.1.c2
      have c3 := H5.out.2.1.c3
      go_wp2_with fail
      refine (it_whole ⟨mk, f, q, t, d⟩ w5).mono ?_
      rintro x w6 ⟨rfl, b6⟩
      have H6 : Hid (Below w3.heap.size w3 w6) := Lib.hid (H5.out.1.trans (b6.mono H5.out.1.size))
      clear b6 H5 c0 c1 c2 c3
      have H7 : Hid ((w6.alloc (.cells #[.int .i64 f, .int .u64 q, .int .u64 t, .string d, .int .i64 mk] 55)).ownsRow w.heap.size 55 5 v j (ecells NtV.ic (ns.take j)) ∧ Below w3.heap.size w3 (w6.alloc (.cells #[.int .i64 f, .int .u64 q, .int .u64 t, .string d, .int .i64 mk] 55)) ∧ w.heap.size ≤ (w6.alloc (.cells #[.int .i64 f, .int .u64 q, .int .u64 t, .string d, .int .i64 mk] 55)).heap.size) := Lib.hid (by
        have hb : Below w3.heap.size w3 (w6.alloc (.cells #[.int .i64 f, .int .u64 q, .int .u64 t, .string d, .int .i64 mk] 55)) := H6.out.trans ((Kq.below_alloc _ _).mono H6.out.size)
        exact ⟨own_later H3.out.2.2.1 (fun g hg => hb.block g (H3.out.2.2.1.lt g hg).2), hb, Nat.le_trans H3.out.2.2.2 hb.size⟩)
      go_wp2_with (at_builtin; refine Kq.wpList_append_any _ rfl (.tmp 31) (.tmp 36) 30 30 rfl w.heap.size 55 i0 (.agg #[.int .i64 0, .int .u64 0, .int .u64 0, .string ⟨#[]⟩, .int .i64 0]) 5 48 Try.underlying30 hi hz0 hz1 hz2 rfl (by decide) v j (ecells NtV.ic (ns.take j)) rfl H7.out.1 (.slice (some ⟨w6.heap.size, 0, none⟩) 1 1) 1 (NtV.ic ⟨mk, f, q, t, d⟩) rfl ?hs ?h1 ?h2 ?h3 ?_)
      case hs => exact items_src ⟨mk, f, q, t, d⟩ w6
      case h1 => unfold maxLen; omega
      case h2 => omega
      case h3 => exact H7.out.2.2
      intro v' w8 hown8 hgrow hfresh
      have H8 : Hid (w8.ownsRow w.heap.size 55 5 v' (j + 1) (ecells NtV.ic (ns.take (j + 1))) ∧ RdB w8 B (encL (ns.drop (j + 1)) ++ rest) ∧ Kq.Keeps (· = B) w w8) := Lib.hid (by
        have hv : ∀ g, v.ownBlock = some g → w.heap.size ≤ g := fun g hg => own_ge H7.out.1 hg
        have k8 : Kq.Keeps (fun g => w.heap.size ≤ g) (w6.alloc (.cells #[.int .i64 f, .int .u64 q, .int .u64 t, .string d, .int .i64 mk] 55)) w8 := Kq.Keeps.grown hgrow (fun k _ hk => hv k hk)
        have k7 : Kq.Keeps (fun g => w.heap.size ≤ g) w3 (w6.alloc (.cells #[.int .i64 f, .int .u64 q, .int .u64 t, .string d, .int .i64 mk] 55)) := Kq.Keeps.of_below H7.out.2.1 (fun k h1 h2 => absurd h2 (Nat.not_lt.2 h1))
        refine ⟨by rw [HS.out]; exact hown8, H3.out.1.keeps (k7.trans k8) (Nat.not_le.2 HB.out), ?_⟩
        have k3 := H3.out.2.1
        refine ⟨(k7.trans k8).os.trans k3.os, (k7.trans k8).tape.trans k3.tape, (k7.trans k8).output.trans k3.output, Nat.le_trans k3.size (k7.trans k8).size, fun g hg hn => ?_⟩
        rw [(k7.trans k8).block g (Nat.lt_of_lt_of_le hg k3.size) (Nat.not_le.2 hg), k3.block g hg hn])
      clear hown8 hgrow hfresh H7 H6 H3 HE
      go_wp2
      go_roundw
      case rel => exact ⟨j + 1, v', HLT.out, by go_num, rfl, H8.out.1, Or.inl ⟨HKN.out, H8.out.2.1⟩, H8.out.2.2⟩
      case measure => have := HLT.out; simp [intOf]; omega
    · obtain rfl : j = k0 := by omega
      have HP : Hid (∀ vv, vv = v → XL w B ns rest (.returned vv) wr) := Lib.hid (fun vv hvv => by
        have hl : (ns.take j).length = j := by rw [List.length_take]; have := H1.out.2.2; omega
        have hown' : wr.ownsRow w.heap.size 55 5 v (ns.take j).length (ecells NtV.ic (ns.take j)) := by rw [hl]; exact hown
        obtain ⟨A, cap, hv, hE, hF⟩ := row_ens items_len hown'
        refine ⟨A, _, cap, by rw [hvv, hv], by rw [hl]; exact H1.out.2.2, hK, ?_⟩
        rcases hR with ⟨e, g⟩ | ⟨e, g⟩
        · rw [e, List.drop_length] at g
          exact Or.inl (by simpa [encL] using g)
        · exact Or.inr g)
      clear hown hR hK
      go_wp2
      go_ret
      exact HP.out _ rfl
set_option maxRecDepth 100000 in
set_option maxHeartbeats 2000000 in
theorem x_items (B : Nat) (ns : List NtV) (rest : List Nat) (w : World) (h : RdX w B ([ns.length] ++ (encL ns ++ rest))) (hwf : ∀ n ∈ ns, n.wf) (hns : ns.length ≤ 255) (hok : ∀ n ∈ ns, EnOk [1, 2] n) :
    Calls Try.prog 56 #[.pointer (some ⟨B, 0, none⟩)] w (XL w B ns rest) := by
  have hb := Kq.below_alloc w (.cells #[.int .i64 1, .int .i64 2] 3)
  have hM : IntsAt (w.alloc (.cells #[.int .i64 1, .int .i64 2] 3)) w.heap.size [1, 2] := by
    refine ⟨by simp, fun j hj => ?_⟩
    have hj' : j < 2 := hj
    rw [Kq.blk_cell (Kq.blk_new w _ _ _) j]
    match j, hj' with
    | 0, _ => rfl
    | 1, _ => rfl
  have H := Lib.hid (And.intro (h.below hb) (And.intro hM (And.intro (Ne.symm (Nat.ne_of_lt h.lt)) (And.intro hwf (And.intro hns (And.intro hok hb))))))
  clear h hM hwf hns hok hb
  go_enter Try.func56, Try.ntmps56
  go_wp2_with fail
  refine (x_ittell B w.heap.size 2 [1, 2] ns rest _ H.out.1 H.out.2.1 H.out.2.2.1 (by decide) H.out.2.2.2.1 H.out.2.2.2.2.1 H.out.2.2.2.2.2.1 (by decide)).mono ?_
  rintro x w2 ⟨A, n, cap, rfl, hn, hK, hR⟩
  have HP : Hid (XL w B ns rest (.returned (.slice A n cap)) w2) := Lib.hid ⟨A, n, cap, rfl, hn, (Kq.Keeps.of_below H.out.2.2.2.2.2.2 (fun k h1 h2 => absurd h2 (Nat.not_lt.2 h1))).trans hK, hR⟩
  clear hK hR hn
  go_wp2
  go_ret
  exact HP.out
end Go.Proofs.Ytkbiolhcpghmkaa
