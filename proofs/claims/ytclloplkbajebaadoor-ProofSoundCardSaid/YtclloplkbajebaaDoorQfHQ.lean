/- Merged: QfC, QfH. Contracts of carrackref09.climbs, carrackref09.Has. Condition: sizes. Contracts of carrackref09.Has, carrackref09.Lacks. Condition: sizes. -/
import Derived.WalkSpells
import Derived.Outline
import Derived.Test.YtclloplkbajebaaDoorQfPwQ
import Derived.Test.YtclloplkbajebaaDoorPfCQ
import Derived.Test.YtclloplkbajebaaDoorPfLQ
import Derived.Test.YtclloplkbajebaaDoorRkVQ
import Derived.Deep.QuietTactic
import Derived.BigQuiet
namespace Go.Proofs.YtclloplkbajebaaDoor
open Go.RowKit
set_option linter.unusedVariables false
theorem askCl_snoc : ∀ (l : List LfV) (x : LfV) (T : List ByteArray), askCl (l ++ [x]) T = lfAsk x ++ askCl l T
  | [], x, T => rfl
  | y :: l, x, T => askCl_snoc l x _
theorem clB_snoc (root : ByteArray) (l : List LfV) (x : LfV) : clB root (l ++ [x]) = (clB root l && decide (lfClimb x = (root, true))) := by
  unfold clB
  rw [List.all_append]
  simp
/-- what a call tells that asks the book -/
def QcPost (w : World) (lo hi P : Nat) (T : List ByteArray) (r : Bool) (x : Ending) (w' : World) : Prop := x = .returned (.bool r) ∧ BookW w' lo hi P T ∧ Kq.Keeps (fun k => lo ≤ k ∧ k < hi) w w'
theorem askH_len {p : PfV} (hm : PfMay p) (T : List ByteArray) : (askCl p.ls T).length ≤ T.length + 68 := by
  have := askCl_len p.ls T (fun L hL => (hm.2 L hL).n)
  have := hm.1
  omega
set_option maxRecDepth 100000 in
set_option maxHeartbeats 1000000 in
theorem rq_climbs (root : ByteArray) (ab : Bool) (A : Option Addr) (cap lo hi P : Nat) (T : List ByteArray) (ls : List LfW) (w : World) (hB : BookW w lo hi P T) (hhi : hi ≤ w.heap.size) (hlo : lo ≤ w.heap.size) (hA : LfsN w (fun k => lo ≤ k ∧ k < hi) A ls) (hn : ls.length ≤ 2) (hm : ∀ x ∈ ls, LfMay x.l) (hT : T.length ≤ 700) :
    Calls Tryd.prog 53 #[.pointer (some ⟨P, 0, none⟩), .string root, .agg #[.bool ab, .slice A ls.length cap]] w (QcPost w lo hi P (askCl (vals ls) T) (clB root (vals ls))) := by
  have b0 := Kq.below_alloc w (.cells #[.bool ab, .slice A ls.length cap] 24)
  have H0 : Hid (BookW (w.alloc (.cells #[.bool ab, .slice A ls.length cap] 24)) lo hi P T ∧ LfsN (w.alloc (.cells #[.bool ab, .slice A ls.length cap] 24)) (fun k => lo ≤ k ∧ k < hi) A ls ∧ PBk (w.alloc (.cells #[.bool ab, .slice A ls.length cap] 24)) w.heap.size ab (.slice A ls.length cap) ∧ Kq.Keeps (fun k => lo ≤ k ∧ k < hi) w (w.alloc (.cells #[.bool ab, .slice A ls.length cap] 24))) := Lib.hid ⟨hB.below b0, hA.below b0, ⟨Kq.blk_new _ _ _ _⟩, keeps_below b0⟩
  have HM := Lib.hid hm
  have H2N := Lib.hid hn
  have HS := Lib.hid (And.intro hhi (And.intro hlo hT))
  have HALEN : Hid (∀ j, (askCl ((vals ls).take j) T).length ≤ T.length + 68) := Lib.hid (fun j => by
    have h1 := askCl_len ((vals ls).take j) T (fun L hL => by
      obtain ⟨x, hx, rfl⟩ := List.mem_map.1 (List.mem_of_mem_take hL)
      exact (hm x hx).n)
    have h2 : ((vals ls).take j).length ≤ 2 := by rw [List.length_take, vals_len]; omega
    omega)
  clear hB hhi hlo hA hm hT b0
  cases ab
  all_goals
    go_enter Tryd.func53, Tryd.ntmps53
    go_wp2
    go_loopw [7, 8] (fun u i wr => ∃ (j : Nat) (ok : Bool), j ≤ ls.length ∧ u = .bool ok ∧ i = .int .i64 (j : Int) ∧ ok = clB root ((vals ls).take j) ∧ BookW wr lo hi P (askCl ((vals ls).take j) T) ∧ LfsN wr (fun k => lo ≤ k ∧ k < hi) A ls ∧ wr.cell? ⟨w.heap.size, 1, none⟩ = some (.slice A ls.length cap) ∧ w.heap.size < wr.heap.size ∧ Kq.Keeps (fun k => lo ≤ k ∧ k < hi) w wr) (fun _ i _ => ls.length - (intOf i).toNat)
    case atStart => exact ⟨0, true, by omega, rfl, rfl, rfl, H0.out.1, H0.out.2.1, H0.out.2.2.1.c1, by simp, H0.out.2.2.2⟩
    case round =>
      obtain ⟨j, ok, hj, rfl, rfl, hok, hbk, hlf, c1, hsz, hkp⟩ := hrel
      have hn2 := H2N.out
      by_cases hlt : j < ls.length
      · obtain ⟨b, off, rfl, hbS, hb, hc, ht, -⟩ := hlf j hlt
        have hmay : LfMay ls[j].l := HM.out _ (List.getElem_mem _)
        have hv : j < (vals ls).length := by rw [vals_len]; exact hlt
        have HTK : Hid ((vals ls).take (j + 1) = (vals ls).take j ++ [ls[j].l]) := Lib.hid (by rw [List.take_succ_eq_append_getElem hv]; simp [vals])
        obtain ⟨x, hx⟩ : ∃ x, x = ls[j] := ⟨_, rfl⟩
        rw [← hx] at hc ht hmay HTK
        have HLT := Lib.hid hlt
        have hi0 : (j : Int) < (ls.length : Int) := by omega
        have HOK := Lib.hid hok
        clear hx hv hlt hok
        obtain ⟨⟨i, c, k, v, p⟩, a, cp⟩ := x
        obtain ⟨q0, q1, q2, q3, q4⟩ := hc
        simp only at q0 q1 q2 q3 q4 ht hmay HTK
        have HCL := Lib.hid (rk_climb i c k v p a cp lo hi P _ wr hbk (Nat.le_trans HS.out.1 hkp.size) (Nat.le_trans HS.out.2.1 hkp.size) (ht.o (fun k h1 h2 => ⟨h1, h2⟩)) (by have := hmay.n; simp only at this; omega) (by have := hmay.k; have := hmay.v; simp only at *; omega) (by have := HALEN.out j; have := HS.out.2.2; omega))
        have HST := Lib.hid (And.intro hlf (And.intro c1 (And.intro hsz hkp)))
        have HNS : Hid (¬ (lo ≤ w.heap.size ∧ w.heap.size < hi)) := Lib.hid (by have := HS.out.1; omega)
        obtain ⟨r, hr⟩ : ∃ r, r = climbV i c (k, v) p := ⟨_, rfl⟩
        rw [← hr] at HCL
        have HR : Hid (lfClimb ⟨i, c, k, v, p⟩ = r) := Lib.hid hr.symm
        have HAS : Hid (askC i c (k, v) p = lfAsk ⟨i, c, k, v, p⟩) := Lib.hid rfl
        rw [HAS.out] at HCL
        obtain ⟨d, is⟩ := r
        (try simp only at HCL)
        clear hbk hlf ht hmay hbS hb hkp hsz hr
        go_wp2_with fail
        refine HCL.out.mono ?_
        rintro x w3 ⟨rfl, hbk3, hkp3⟩
        have H3 : Hid (BookW w3 lo hi P (askCl ((vals ls).take (j + 1)) T) ∧ LfsN w3 (fun k => lo ≤ k ∧ k < hi) (some ⟨b, off, none⟩) ls ∧ w3.cell? ⟨w.heap.size, 1, none⟩ = some (.slice (some ⟨b, off, none⟩) ls.length cap) ∧ w.heap.size < w3.heap.size ∧ Kq.Keeps (fun k => lo ≤ k ∧ k < hi) w w3) := Lib.hid ⟨by rw [HTK.out, askCl_snoc]; exact hbk3, HST.out.1.keeps hkp3 (fun k _ h => h), by rw [World.cell?_of_block (hkp3.block w.heap.size HST.out.2.2.1 HNS.out)]; exact HST.out.2.1, Nat.lt_of_lt_of_le HST.out.2.2.1 hkp3.size, HST.out.2.2.2.trans hkp3⟩
        have HOK2 : Hid (clB root ((vals ls).take (j + 1)) = (ok && decide ((d, is) = (root, true)))) := Lib.hid (by rw [HTK.out, clB_snoc, HR.out, HOK.out])
        clear hbk3 hkp3 HCL HST q0 q1 q2 q3 q4 c1
        cases ok with
        | false =>
          go_wp2
          go_roundw
          case rel => exact ⟨j + 1, false, HLT.out, rfl, by go_num, by rw [HOK2.out]; rfl, H3.out⟩
          case measure => have := HLT.out; simp [intOf]; omega
        | true =>
          cases is with
          | false =>
            go_wp2
            go_roundw
            case rel => exact ⟨j + 1, false, HLT.out, rfl, by go_num, by rw [HOK2.out]; simp, H3.out⟩
            case measure => have := HLT.out; simp [intOf]; omega
          | true =>
            by_cases he : d = root
            · subst he
              have e1 : (d.toList == d.toList) = true := by simp
              go_wp2
              go_roundw
              case rel => exact ⟨j + 1, true, HLT.out, rfl, by go_num, by rw [HOK2.out]; simp, H3.out⟩
              case measure => have := HLT.out; simp [intOf]; omega
            · have e1 : (d.toList == root.toList) = false := by rw [beq_eq_false_iff_ne]; exact fun h => he (toList_inj h)
              have HHE := Lib.hid he
              clear he
              go_wp2
              go_roundw
              case rel => exact ⟨j + 1, false, HLT.out, rfl, by go_num, by rw [HOK2.out]; simp [HHE.out], H3.out⟩
              case measure => have := HLT.out; simp [intOf]; omega
      · obtain rfl : j = ls.length := by omega
        have HE : Hid (ok = clB root (vals ls) ∧ BookW wr lo hi P (askCl (vals ls) T) ∧ Kq.Keeps (fun k => lo ≤ k ∧ k < hi) w wr) := Lib.hid (by
          have e : (vals ls).take ls.length = vals ls := by rw [← vals_len, List.take_length]
          rw [e] at hok hbk
          exact ⟨hok, hbk, hkp⟩)
        clear hok hbk hlf hkp
        go_wp2
        go_ret
        exact ⟨by rw [HE.out.1]; rfl, HE.out.2⟩
/-- the texts that are digested where Has, Lacks are asked -/
def askH (p : PfV) (T : List ByteArray) : List ByteArray := if p.ab = false ∧ p.ls.length = 1 then askCl p.ls T else T
def askK (key : ByteArray) (p : PfV) (T : List ByteArray) : List ByteArray := if p.ab = true ∧ isKeyB key = true then (if p.ls.length = 0 then askR [] ++ T else askCl p.ls T) else T
end Go.Proofs.YtclloplkbajebaaDoor
namespace Go.Proofs.YtclloplkbajebaaDoor
open Go.RowKit
set_option linter.unusedVariables false
theorem askH_no {p : PfV} (T : List ByteArray) (h : p.ab = true ∨ p.ls.length ≠ 1) : askH p T = T := by
  unfold askH
  refine if_neg (fun hh => ?_)
  rcases h with h | h
  · rw [hh.1] at h; cases h
  · exact h hh.2
theorem askK_no {key : ByteArray} {p : PfV} (T : List ByteArray) (h : p.ab = false ∨ isKeyB key = false) : askK key p T = T := by
  unfold askK
  refine if_neg (fun hh => ?_)
  rcases h with h | h
  · rw [hh.1] at h; cases h
  · rw [hh.2] at h; cases h
/-- where Parse told a proof: it stands in a block, its leaves, the book -/
structure Qs (w : World) (lo hi P : Nat) (T : List ByteArray) (X : Nat) (ab : Bool) (A : Option Addr) (n cap : Nat) (ls : List LfW) (w' : World) : Prop where
  bk : BookW w' lo hi P T
  lf : LfsN w' (fun k => lo ≤ k ∧ k < hi) A ls
  pb : PBk w' X ab (.slice A n cap)
  nx : ¬ (lo ≤ X ∧ X < hi)
  hi_ : hi ≤ w'.heap.size
  lo_ : lo ≤ w'.heap.size
  kp : Kq.Keeps (fun k => lo ≤ k ∧ k < hi) w w'
section
variable {w w1 w' : World} {lo hi P : Nat} {T U : List ByteArray} {X : Nat} {ab : Bool} {A : Option Addr} {n cap : Nat} {ls : List LfW}
theorem Qs.start {w2 : World} (hB : BookW w lo hi P T) (hhi : hi ≤ w.heap.size) (hlo : lo ≤ w.heap.size) (hb : Below w.heap.size w w2) (hA : LfsN w2 (fun k => k < w.heap.size) A ls) (ab : Bool) (n cap : Nat) :
    Qs w lo hi P T w2.heap.size ab A n cap ls (w2.alloc (.cells #[.bool ab, .slice A n cap] 24)) := by
  have b1 := Kq.below_alloc w2 (.cells #[.bool ab, .slice A n cap] 24)
  have b2 := hb.trans (b1.mono hb.size)
  have hsz := hb.size
  exact ⟨hB.below b2, (hA.below b1).mono (fun k _ hk => by omega), ⟨Kq.blk_new _ _ _ _⟩, by omega, by have := b2.size; omega, by have := b2.size; omega, keeps_below b2⟩
theorem Qs.ask (h : Qs w lo hi P T X ab A n cap ls w1) (hb : BookW w' lo hi P U) (hk : Kq.Keeps (fun k => lo ≤ k ∧ k < hi) w1 w') : Qs w lo hi P U X ab A n cap ls w' :=
  ⟨hb, h.lf.keeps hk (fun k _ hk => hk), h.pb.later hk h.nx, h.nx, Nat.le_trans h.hi_ hk.size, Nat.le_trans h.lo_ hk.size, h.kp.trans hk⟩
theorem Qs.drewN (h : Qs w lo hi P T X ab A n cap ls w1) (m : Nat) : Qs w lo hi P T X ab A n cap ls (w1.drewN m) :=
  have hb : Below w1.heap.size w1 (w1.drewN m) := below_drewN (Below.refl _ _) m
  ⟨h.bk.below hb, h.lf.below hb, h.pb.below hb, h.nx, h.hi_, h.lo_, h.kp.trans (keeps_below hb)⟩
theorem Qs.post (h : Qs w lo hi P T X ab A n cap ls w1) (r : Bool) : QcPost w lo hi P T r (.returned (.bool r)) w1 := ⟨rfl, h.bk, h.kp⟩
end
set_option maxRecDepth 100000 in
set_option maxHeartbeats 1000000 in
theorem rq_has (root s key value : ByteArray) (lo hi P : Nat) (T : List ByteArray) (w : World) (hs : s.size ≤ 100000) (hB : BookW w lo hi P T) (hhi : hi ≤ w.heap.size) (hlo : lo ≤ w.heap.size) (hT : T.length ≤ 700) :
    Calls Tryd.prog 22 #[.pointer (some ⟨P, 0, none⟩), .string root, .string s, .string key, .string value] w (QcPost w lo hi P (askH (pfParse s).1 T) (hasP root key value (pfParse s).1)) := by
  have HP := Lib.hid (rq_parse s w hs)
  have HB := Lib.hid (And.intro hB (And.intro hhi (And.intro hlo hT)))
  obtain ⟨H, hH⟩ : ∃ H, H = hasP root key value (pfParse s).1 := ⟨_, rfl⟩
  obtain ⟨U, hU⟩ : ∃ U, U = askH (pfParse s).1 T := ⟨_, rfl⟩
  have HH := Lib.hid (And.intro hH hU)
  rw [← hH, ← hU]
  clear hs hH hU hB hhi hlo hT
  go_enter Tryd.func22, Tryd.ntmps22
  go_wp2_with fail
  refine HP.out.mono ?_
  intro x w2 hpost
  rcases hpost.open_ with ⟨e1, A, cap, rfl, hb⟩ | ⟨A, cap, ls, rfl, hok⟩
  · have HE : Hid (QcPost w lo hi P U H (.returned (.bool false)) (w2.alloc (.cells #[.bool false, .slice A 0 cap] 24))) := Lib.hid (by
      have h1 : H = false := by rw [HH.out.1, e1]; rfl
      have h2 : U = T := by rw [HH.out.2, e1]; rfl
      rw [h1, h2]
      exact (Qs.start (A := none) (ls := []) HB.out.1 HB.out.2.1 HB.out.2.2.1 hb LfsN.nil false 0 0).post false |> fun _ => ⟨rfl, HB.out.1.below (hb.trans ((Kq.below_alloc _ _).mono hb.size)), keeps_below (hb.trans ((Kq.below_alloc _ _).mono hb.size))⟩)
    clear hpost e1 hb HH HP
    go_wp2
    go_ret
    exact HE.out
  · have HOK := Lib.hid hok
    obtain ⟨ab, hab⟩ : ∃ ab, ab = (pfParse s).1.ab := ⟨_, rfl⟩
    have HAB := Lib.hid hab
    have hn := hok.n
    rw [← hab]
    have HQ := Lib.hid (Qs.start HB.out.1 HB.out.2.1 HB.out.2.2.1 hok.bel hok.at_ ab ls.length cap)
    clear hpost hab hok HP
    cases ab with
    | true =>
      have HE : Hid (QcPost w lo hi P U H (.returned (.bool false)) (w2.alloc (.cells #[.bool true, .slice A ls.length cap] 24))) := Lib.hid (by
        have h1 : H = false := by rw [HH.out.1]; exact hasP_no _ _ _ _ (Or.inl HAB.out.symm)
        have h2 : U = T := by rw [HH.out.2]; exact askH_no T (Or.inl HAB.out.symm)
        rw [h1, h2]
        exact HQ.out.post false)
      clear hn
      go_wp2
      go_ret
      exact HE.out
    | false =>
      rcases ls with _ | ⟨x, _ | ⟨y, _ | ⟨z, ls⟩⟩⟩
      · have HE : Hid (QcPost w lo hi P U H (.returned (.bool false)) (w2.alloc (.cells #[.bool false, .slice A 0 cap] 24))) := Lib.hid (by
          have hl : (pfParse s).1.ls.length ≠ 1 := by rw [← HOK.out.v]; simp [vals]
          have h1 : H = false := by rw [HH.out.1]; exact hasP_no _ _ _ _ (Or.inr hl)
          have h2 : U = T := by rw [HH.out.2]; exact askH_no T (Or.inr hl)
          rw [h1, h2]
          exact HQ.out.post false)
        simp only [List.length_nil]
        clear hn
        go_wp2
        go_ret
        exact HE.out
      · have hv : (pfParse s).1 = ⟨false, [x.l]⟩ := by
          have : (pfParse s).1.ls = [x.l] := HOK.out.v.symm
          rw [← this, HAB.out]
        have HMX := Lib.hid (HOK.out.may x (by simp))
        have HV : Hid (H = (decide (x.l.k = key ∧ x.l.v = value) && clB root [x.l])) := Lib.hid (by rw [HH.out.1, hv]; rfl)
        have HU : Hid (U = askCl [x.l] T) := Lib.hid (by rw [HH.out.2, hv]; rfl)
        have HCL := Lib.hid (rq_climbs root false A cap lo hi P T [x] _ HQ.out.bk HQ.out.hi_ HQ.out.lo_ HQ.out.lf (by simp) (fun z hz => by rw [List.mem_singleton] at hz; rw [hz]; exact HMX.out) HB.out.2.2.2)
        simp only [List.length_cons, List.length_nil, Nat.zero_add] at HQ HCL ⊢
        have HVX : Hid (vals [x] = [x.l]) := Lib.hid rfl
        rw [HVX.out, ← HU.out] at HCL
        obtain ⟨CB, hCB⟩ : ∃ CB, CB = clB root [x.l] := ⟨_, rfl⟩
        rw [← hCB] at HCL HV
        have c0 := HQ.out.pb.c0
        have c1 := HQ.out.pb.c1
        clear hn hv HVX hCB
        go_wp2_with fail
        refine HCL.out.mono ?_
        rintro z w5 ⟨rfl, hbk, hkp⟩
        have H5 := Lib.hid (HQ.out.ask hbk hkp)
        clear hbk hkp HCL HQ c0 c1
        have c1 := H5.out.pb.c1
        obtain ⟨b, off, rfl, -, -, hc⟩ := H5.out.lf.head
        obtain ⟨q0, q1, q2, q3, q4⟩ := hc
        obtain ⟨⟨i, c, k, v, p⟩, a, cp⟩ := x
        simp only at q0 q1 q2 q3 q4 HV
        cases CB with
        | false =>
          have HE : Hid (H = false) := Lib.hid (by rw [HV.out]; simp)
          go_wp2
          go_ret
          rw [HE.out]
          exact H5.out.post false
        | true =>
          by_cases h1 : k = key
          · subst h1
            have e1 : (k.toList == k.toList) = true := by simp
            by_cases h2 : v = value
            · subst h2
              have e2 : (v.toList == v.toList) = true := by simp
              have HE : Hid (H = true) := Lib.hid (by rw [HV.out]; simp)
              go_wp2
              go_ret
              rw [HE.out]
              exact H5.out.post true
            · have e2 : (v.toList == value.toList) = false := by rw [beq_eq_false_iff_ne]; exact fun h => h2 (toList_inj h)
              have HE : Hid (H = false) := Lib.hid (by rw [HV.out]; simp [h2])
              clear h2
              go_wp2
              go_ret
              rw [HE.out]
              exact H5.out.post false
          · have e2 : (k.toList == key.toList) = false := by rw [beq_eq_false_iff_ne]; exact fun h => h1 (toList_inj h)
            have HE : Hid (H = false) := Lib.hid (by rw [HV.out]; simp [h1])
            clear h1
            go_wp2
            go_ret
            rw [HE.out]
            exact H5.out.post false
      · have HE : Hid (QcPost w lo hi P U H (.returned (.bool false)) (w2.alloc (.cells #[.bool false, .slice A 2 cap] 24))) := Lib.hid (by
          have hl : (pfParse s).1.ls.length ≠ 1 := by rw [← HOK.out.v]; simp [vals]
          have h1 : H = false := by rw [HH.out.1]; exact hasP_no _ _ _ _ (Or.inr hl)
          have h2 : U = T := by rw [HH.out.2]; exact askH_no T (Or.inr hl)
          rw [h1, h2]
          exact HQ.out.post false)
        simp only [List.length_cons, List.length_nil, Nat.zero_add, Nat.reduceAdd]
        clear hn
        go_wp2
        go_ret
        exact HE.out
      · exact absurd hn (by simp)
end Go.Proofs.YtclloplkbajebaaDoor
