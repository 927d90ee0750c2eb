/- The law's few, and its examples. No condition. -/
import Derived.WalkSpells
import Derived.Outline
import Derived.Test.YtjilbcefikbihaaScPut2Q
import Derived.Test.YtjilbcefikbihaaScEn2Q
namespace Go.Proofs.Ytjilbcefikbihaa
open Go.RowKit
set_option linter.unusedVariables false
def fewA (a : SaV) : Prop := a.d.size ≤ 70000 ∧ a.mp.size ≤ 70000 ∧ a.pd.size ≤ 70000 ∧ a.ws.length ≤ 600
instance (a : SaV) : Decidable (fewA a) := by unfold fewA; exact inferInstance
set_option maxRecDepth 100000 in
set_option maxHeartbeats 2000000 in
theorem lw_few (a : SaV) (A : Option Addr) (cap : Nat) (w : World) :
    Calls Try.prog 7 #[.agg #[.int .i64 a.k, .int .i64 a.c, .int .u64 a.t, .string a.d, .int .i64 a.n, .int .i64 a.mk, .int .i64 a.mt, .int .u64 a.mh, .int .i64 a.pf, .int .u64 a.pq, .int .u64 a.pt, .string a.pd, .string a.mp, .slice A a.ws.length cap]] w fun x w' => x = .returned (.bool (decide (fewA a))) ∧ Below w.heap.size w w' := by
  have HB : Hid (Below w.heap.size w (w.alloc (.cells #[.int .i64 a.k, .int .i64 a.c, .int .u64 a.t, .string a.d, .int .i64 a.n, .int .i64 a.mk, .int .i64 a.mt, .int .u64 a.mh, .int .i64 a.pf, .int .u64 a.pq, .int .u64 a.pt, .string a.pd, .string a.mp, .slice A a.ws.length cap] 29))) := Lib.hid (Kq.below_alloc _ _)
  obtain ⟨r, hr⟩ : ∃ r, r = decide (fewA a) := ⟨_, rfl⟩
  rw [← hr]
  have HR := Lib.hid hr
  clear hr
  by_cases e0 : a.d.size ≤ 70000
  case neg =>
    have HF : Hid (r = false) := Lib.hid (by rw [HR.out]; exact decide_eq_false (fun h => e0 h.1))
    have q0 : decide ((a.d.size : Int) ≤ 70000) = false := decide_eq_false (by omega)
    have p0 : decide (a.d.size ≤ 70000) = false := decide_eq_false e0
    have o0 : ¬ (a.d.size : Int) ≤ 70000 := by omega
    go_enter Try.func7, Try.ntmps7
    go_wp2
    go_ret
    exact ⟨by rw [HF.out]; rfl, HB.out⟩
  have HE0 := Lib.hid e0
  have q0 : decide ((a.d.size : Int) ≤ 70000) = true := decide_eq_true (by omega)
  have p0 : decide (a.d.size ≤ 70000) = true := decide_eq_true e0
  have o0 : (a.d.size : Int) ≤ 70000 := by omega
  clear e0
  by_cases e1 : a.mp.size ≤ 70000
  case neg =>
    have HF : Hid (r = false) := Lib.hid (by rw [HR.out]; exact decide_eq_false (fun h => e1 h.2.1))
    have q1 : decide ((a.mp.size : Int) ≤ 70000) = false := decide_eq_false (by omega)
    have p1 : decide (a.mp.size ≤ 70000) = false := decide_eq_false e1
    have o1 : ¬ (a.mp.size : Int) ≤ 70000 := by omega
    go_enter Try.func7, Try.ntmps7
    go_wp2
    go_ret
    exact ⟨by rw [HF.out]; rfl, HB.out⟩
  have HE1 := Lib.hid e1
  have q1 : decide ((a.mp.size : Int) ≤ 70000) = true := decide_eq_true (by omega)
  have p1 : decide (a.mp.size ≤ 70000) = true := decide_eq_true e1
  have o1 : (a.mp.size : Int) ≤ 70000 := by omega
  clear e1
  by_cases e2 : a.pd.size ≤ 70000
  case neg =>
    have HF : Hid (r = false) := Lib.hid (by rw [HR.out]; exact decide_eq_false (fun h => e2 h.2.2.1))
    have q2 : decide ((a.pd.size : Int) ≤ 70000) = false := decide_eq_false (by omega)
    have p2 : decide (a.pd.size ≤ 70000) = false := decide_eq_false e2
    have o2 : ¬ (a.pd.size : Int) ≤ 70000 := by omega
    go_enter Try.func7, Try.ntmps7
    go_wp2
    go_ret
    exact ⟨by rw [HF.out]; rfl, HB.out⟩
  have HE2 := Lib.hid e2
  have q2 : decide ((a.pd.size : Int) ≤ 70000) = true := decide_eq_true (by omega)
  have p2 : decide (a.pd.size ≤ 70000) = true := decide_eq_true e2
  have o2 : (a.pd.size : Int) ≤ 70000 := by omega
  clear e2
  by_cases e3 : a.ws.length ≤ 600
  case neg =>
    have HF : Hid (r = false) := Lib.hid (by rw [HR.out]; exact decide_eq_false (fun h => e3 h.2.2.2))
    have q3 : decide ((a.ws.length : Int) ≤ 600) = false := decide_eq_false (by omega)
    have p3 : decide (a.ws.length ≤ 600) = false := decide_eq_false e3
    have o3 : ¬ (a.ws.length : Int) ≤ 600 := by omega
    go_enter Try.func7, Try.ntmps7
    go_wp2
    go_ret
    exact ⟨by rw [HF.out]; rfl, HB.out⟩
  have HE3 := Lib.hid e3
  have q3 : decide ((a.ws.length : Int) ≤ 600) = true := decide_eq_true (by omega)
  have p3 : decide (a.ws.length ≤ 600) = true := decide_eq_true e3
  have o3 : (a.ws.length : Int) ≤ 600 := by omega
  clear e3
  have HF : Hid (r = true) := Lib.hid (by rw [HR.out]; exact decide_eq_true ⟨HE0.out, HE1.out, HE2.out, HE3.out⟩)
  go_enter Try.func7, Try.ntmps7
  go_wp2
  go_ret
  exact ⟨by rw [HF.out]; rfl, HB.out⟩
def awA : SaV := { SaV.zero with k := 1, c := 1 }
theorem byte_cons (b : Nat) (l : List Nat) (hb : b < 256) (hl : ∀ x ∈ l, x < 256) : byteF 0 (txt (b :: l)) = ((b : Int), 0, txt l) := by
  have hn : nl (txt (b :: l)) = b :: l := nl_txt _ (fun x hx => by rcases List.mem_cons.1 hx with rfl | h; exact hb; exact hl x h)
  have hs : (txt (b :: l)).size = l.length + 1 := txt_size _
  have h1 : nl ((txt (b :: l)).extract 0 1) = [b] := by rw [nl_extract, hn]; rfl
  have h2 : (txt (b :: l)).extract 1 (txt (b :: l)).size = txt l := by
    apply nl_inj
    rw [nl_extract, hn, nl_txt l hl, hs]
    simp
  unfold byteF
  rw [WireM.raw_ok _ 1 (by omega), h1, h2]
  show (((WireM.val [b] : Nat) : Int), (0 : Int), txt l) = _
  have : WireM.val [b] = b := by simp [WireM.val]
  rw [this]
theorem ent_two : entF (txt [2, 9]) = [(zeroK 2, 0), (SaV.zero, 5)] := by
  have h1 := byte_cons 2 [9] (by decide) (by intro x hx; have := List.mem_singleton.1 hx; omega)
  have h2 := byte_cons 9 [] (by decide) (by intro x hx; cases hx)
  rw [entF_step _ (by rw [txt_size]; decide)]
  have s1 : entStep (txt [2, 9]) = ((zeroK 2, 0), txt [9]) := by
    unfold entStep
    rw [h1]
    rfl
  rw [s1, entF_step _ (by rw [txt_size]; decide)]
  have s2 : entStep (txt [9]) = ((SaV.zero, 5), txt []) := by
    unfold entStep
    rw [h2]
    rfl
  rw [s2, entF_zero _ (by rw [txt_size]; rfl)]
set_option maxRecDepth 100000 in
set_option maxHeartbeats 2000000 in
theorem awake23 (w : World) : Calls Try.prog 6 #[] w fun x w' => x = .returned (.bool true) ∧ Below w.heap.size w w' := by
  have HP := Lib.hid (sc_put awA (.slice none 0 0) 1 w (by decide) rfl ⟨none, 0, rfl, fun j hj => by cases hj⟩ (fun b h => by cases h) ⟨by decide, by decide, by decide, by decide, by decide, by decide, by decide, by decide⟩)
  have HK : Hid (awA = (fmOf 1).keep awA (zeroK 1)) := Lib.hid rfl
  have HO : Hid ((fmOf 1).ok awA) := Lib.hid (show 0 ≤ (1 : Int) ∧ (1 : Int) ≤ 255 by decide)
  have HX : Hid (txt ([1] ++ (fmOf 1).enc awA) = ⟨#[1, 1]⟩) := Lib.hid rfl
  have HT : Hid ((⟨#[2, 9]⟩ : ByteArray) = txt [2, 9]) := Lib.hid rfl
  go_enter Try.func6, Try.ntmps6
  go_wp2_with fail
  refine HP.out.mono ?_
  rintro x w2 ⟨b2, -, -, h3⟩
  obtain rfl := h3 HK.out HO.out
  have H2 := Lib.hid b2
  rw [HX.out]
  clear b2 h3
  go_wp2_with fail
  rw [HT.out]
  refine (sc_entries (txt [2, 9]) w2 (by rw [txt_size]; decide)).mono ?_
  rintro x w3 ⟨A, c, xs, rfl, hat, hmap, b3⟩
  rw [ent_two] at hmap
  obtain ⟨x0, x1, rfl⟩ : ∃ x0 x1, xs = [x0, x1] := by
    have hl := congrArg List.length hmap
    rw [List.length_map] at hl
    match xs, hl with
    | [x0, x1], _ => exact ⟨x0, x1, rfl⟩
  have HM := Lib.hid hmap
  have H3 := Lib.hid (And.intro b3 hat)
  obtain ⟨b, o, hA, g1, h1⟩ := hat.1 0 (by show 0 < 2; decide)
  obtain ⟨b', o', hA', g1', h1'⟩ := hat.1 1 (by show 1 < 2; decide)
  rw [hA] at hA'
  injection hA' with hA'
  injection hA' with e1 e2 _
  subst e1 e2 hA
  have m0 : x0.a = zeroK 2 ∧ x0.e = 0 ∧ x1.e = 5 := by
    have h := HM.out
    simp only [List.map_cons, List.map_nil, EnX.out, List.cons.injEq, Prod.mk.injEq, and_true] at h
    exact ⟨h.1.1, h.1.2, h.2.2⟩
  have c0 : w3.cell? ⟨b, o, none⟩ = some (.int .i64 2) := by
    have h := h1 0 (by decide)
    have e : (enE.cells [x0, x1][0])[0]? = some (.int .i64 x0.a.k) := rfl
    rw [show o + 0 * enE.n + 0 = o by omega, e, m0.1] at h
    exact h
  have c14 : w3.cell? ⟨b, o + 14, none⟩ = some (.int .i64 0) := by
    have h := h1 14 (by decide)
    have e : (enE.cells [x0, x1][0])[14]? = some (.int .i64 x0.e) := rfl
    rw [show o + 0 * enE.n + 14 = o + 14 by omega, e, m0.2.1] at h
    exact h
  have c29 : w3.cell? ⟨b, o + 29, none⟩ = some (.int .i64 5) := by
    have h := h1' 14 (by decide)
    have e : (enE.cells [x0, x1][1])[14]? = some (.int .i64 x1.e) := rfl
    rw [show o + 1 * enE.n + 14 = o + 29 from rfl, e, m0.2.2] at h
    exact h
  clear h1 h1' m0 g1 g1' hat hmap b3
  go_wp2
  go_ret
  exact ⟨rfl, H2.out.trans (H3.out.1.mono H2.out.size)⟩
end Go.Proofs.Ytjilbcefikbihaa
