/- Merged: CnSm, CnKs, CnPrv. Contracts of chain's Update, Root, Get, Next, First, Known. Condition: sizes; the constants lie where they lie. A chain that is right stays so, and grows by little with each call. No condition. Contract of chain's Prove. Condition: small maps; the constants lie where they lie. -/
import Derived.WalkSpells
import Derived.Outline
import Derived.ProofKit
import Derived.Test.YtbjchfcoacmaaaaGreatDoorCnNoQ
import Derived.Test.YtbjchfcoacmaaaaGreatDoorStAtQ
import Derived.Test.YtbjchfcoacmaaaaGreatDoorPfQ2Q
namespace Go.Proofs.YtbjchfcoacmaaaaGreatDoor
open Go.RowKit
set_option linter.unusedVariables false
def updC (c : ChV) (H : Nat) (s : ByteArray) : ChV := { c with n := c.n + 1, hs := (setF H s c.hs c.f).1, f := (setF H s c.hs c.f).2.1 }
section
variable {w : World} {O : Nat → Prop} {B : Nat} {c : ChV}
set_option maxRecDepth 100000 in
set_option maxHeartbeats 1000000 in
theorem cn_update (H : Nat) (s : ByteArray) (h : ChP w O B c) (hc : ChOk c) (hH : H < 18446744073709551616) (hs : s.size ≤ maxLen) : Calls Tryz.prog 44 #[.pointer (some ⟨B, 0, none⟩), .int .u64 (H : Int), .string s] w (StepC w O B (.int .i64 (setF H s c.hs c.f).2.2) (updC c H s)) := by
  obtain ⟨S, C, Os, Oc, On, vb, vn, Vs, h⟩ := h
  have c2 := h.c2
  obtain ⟨base, M, N, v, h1, h2, h3, h4, h5⟩ := h.cl
  have HH := Lib.hid (cl_set base C M N v c.hs c.f H hH s hs w h1 (by have := hc.hs; have := hc.n; omega) (by have := hc.n; omega))
  have HE : Hid (∀ w', SetP w base C M (N + 1) v (setF H s c.hs c.f).1 (setF H s c.hs c.f).2.1 w' → ChP w' (Ext O w w') B (updC c H s) ∧ Kq.Keeps O w w') := Lib.hid (fun w' hp => by
    obtain ⟨g1, g2⟩ := ClF.set h1 h2 h3 h4 h5 hp
    exact ⟨⟨S, C, Os, _, On, vb, vn, Vs, h.setC g1 g2⟩, g2.mono (fun k _ hk => (h.sub k (Or.inr (Or.inl hk))).1)⟩)
  clear h h1 h2 h3 h4 h5 hc hH hs
  generalize updC c H s = c' at *
  generalize setF H s c.hs c.f = z at *
  go_enter Tryz.func44, Tryz.ntmps44
  go_wp2_with fail
  refine HH.out.mono ?_
  rintro x w' ⟨rfl, hp⟩
  have HP := Lib.hid (HE.out w' hp)
  clear hp
  go_wp2
  go_ret
  exact ⟨rfl, HP.out⟩
set_option maxRecDepth 100000 in
set_option maxHeartbeats 1000000 in
theorem cn_root (H : Nat) (h : ChP w O B c) (hc : ChOk c) (hH : H < 18446744073709551616) (hL : LaidOk w) : Calls Tryz.prog 24 #[.pointer (some ⟨B, 0, none⟩), .int .u64 (H : Int)] w fun x w' => x = .returned (.tuple #[.string (rootV c.st H).1, .int .i64 (rootV c.st H).2]) ∧ Below w.heap.size w w' := by
  obtain ⟨S, C, Os, Oc, On, vb, vn, Vs, h⟩ := h
  have c1 := h.c1
  have HH := Lib.hid (st_root w Os S c.st H hH h.st hc.st hL)
  clear h hc hH hL
  generalize rootV c.st H = z at *
  go_enter Tryz.func24, Tryz.ntmps24
  go_wp2_with fail
  refine HH.out.mono ?_
  rintro x w' ⟨rfl, hp⟩
  have HP := Lib.hid hp
  clear hp
  go_wp2
  go_ret2
  exact ⟨rfl, HP.out⟩
set_option maxRecDepth 100000 in
set_option maxHeartbeats 1000000 in
theorem cn_next (h : ChP w O B c) : Calls Tryz.prog 12 #[.pointer (some ⟨B, 0, none⟩)] w fun x w' => x = .returned (.int .u64 (c.next : Int)) ∧ w' = w := by
  obtain ⟨S, C, Os, Oc, On, vb, vn, Vs, h⟩ := h
  have c3 := h.c3
  clear h
  go_enter Tryz.func12, Tryz.ntmps12
  go_wp2
  go_ret
  exact ⟨rfl, rfl⟩
set_option maxRecDepth 100000 in
set_option maxHeartbeats 1000000 in
theorem cn_known (h : ChP w O B c) (hc : ChOk c) : Calls Tryz.prog 14 #[.pointer (some ⟨B, 0, none⟩)] w fun x w' => ∃ v', x = .returned v' ∧ w'.ownsRow w.heap.size 22 1 v' c.hs.length (hcells c.hs) ∧ Below w.heap.size w w' := by
  obtain ⟨S, C, Os, Oc, On, vb, vn, Vs, h⟩ := h
  have c2 := h.c2
  obtain ⟨base, M, N, v, h1, -⟩ := h.cl
  have HH := Lib.hid (cl_heights base C M N v c.hs c.f w h1 (by have := hc.hs; have := hc.n; omega))
  clear h hc h1
  go_enter Tryz.func14, Tryz.ntmps14
  go_wp2_with fail
  refine HH.out.mono ?_
  rintro x w' ⟨v', rfl, g1, g2⟩
  obtain ⟨a, q, cp, rfl⟩ := Kq.own_shape g1
  have HP := Lib.hid (And.intro g1 g2)
  clear g1 g2
  go_wp2
  go_ret
  exact ⟨_, rfl, HP.out⟩
set_option maxRecDepth 100000 in
set_option maxHeartbeats 1000000 in
theorem cn_firstp (h : ChP w O B c) : Calls Tryz.prog 10 #[.pointer (some ⟨B, 0, none⟩)] w fun x w' => x = .returned (.agg #[.int .u64 (c.first : Int), .int .i64 0]) ∧ Below w.heap.size w w' := by
  have hb := Kq.below_alloc w (.cells #[.int .u64 0, .int .i64 0] 30)
  have hn := Kq.blk_new w #[.int .u64 0, .int .i64 0] 30 (0, 0)
  obtain ⟨S, C, Os, Oc, On, vb, vn, Vs, h⟩ := h
  obtain ⟨wa, hwa⟩ : ∃ z, z = w.alloc (.cells #[.int .u64 0, .int .i64 0] 30) := ⟨_, rfl⟩
  obtain ⟨X, hX⟩ : ∃ X, X = w.heap.size := ⟨_, rfl⟩
  have hB : B ≠ w.heap.size := by have := h.bel; omega
  have c4 := h.c4
  have hlt := h.bel
  have HB := Lib.hid hb
  clear h hb
  go_enter Tryz.func10, Tryz.ntmps10
  go_wp2
  exact bodyPost_ret (v := .agg #[.int .u64 (c.first : Int), .int .i64 0]) (by simp [results, Tryz.results10, go_sem]) rfl ⟨rfl, Kq.below_alloc w _⟩
end
end Go.Proofs.YtbjchfcoacmaaaaGreatDoor
namespace Go.Proofs.YtbjchfcoacmaaaaGreatDoor
open Go.RowKit Go.Cl
set_option linter.unusedVariables false
/-- right, and small: m calls at most -/
structure ChK (m : Nat) (c : ChV) : Prop where
  ok : ChOk c
  now : c.st.now.length ≤ 2 * m
  bl : ∀ l ∈ c.st.blks, l.length ≤ 2 * m
  nb : c.blks.length ≤ m + 1
  tot : c.blks.flatten.length + c.built.length ≤ m
  n : c.n ≤ m
theorem ChK.mono {m m' : Nat} {c : ChV} (h : ChK m c) (hm : m ≤ m') : ChK m' c :=
  ⟨h.ok, by have := h.now; omega, fun l hl => by have := h.bl l hl; omega, by have := h.nb; omega, by have := h.tot; omega, by have := h.n; omega⟩
theorem setV_len (s : StV) (hs : StOk s) (k v : ByteArray) : (setV s k v).1.now.length ≤ s.now.length + 1 := by
  unfold setV
  split
  · exact Nat.le_succ _
  · split
    · exact Nat.le_succ _
    · show (insP s.now k v).length ≤ _
      rw [len_ins _ _ _ hs.now.2.1]
      split <;> omega
theorem delV_len (s : StV) (k : ByteArray) : (delV s k).1.now.length ≤ s.now.length := by
  unfold delV
  split
  · exact Nat.le_refl _
  · show (delP s.now k).length ≤ _
    rw [len_del]
    split <;> omega
theorem ChK.send {m : Nat} {c : ChV} (h : ChK m c) (hm : m < 900) (d : ByteArray) (t : Nat) : ChK (m + 1) (sendC c d t) := by
  have hok := sendC_ok h.ok (by have := h.tot; omega) d t
  unfold sendC at hok ⊢
  by_cases e : firstE (sendE c d t) = 0
  · rw [if_pos e] at hok ⊢
    obtain ⟨e1, e2⟩ := setV_same c.st (keyT 99 c.next) (comD (c.pk t d))
    refine ⟨hok, ?_, fun l hl => ?_, ?_, ?_, ?_⟩
    · have := setV_len c.st h.ok.st (keyT 99 c.next) (comD (c.pk t d)); have := h.now
      show (setV c.st (keyT 99 c.next) (comD (c.pk t d))).1.now.length ≤ _; omega
    · have hl' : l ∈ (setV c.st (keyT 99 c.next) (comD (c.pk t d))).1.blks := hl
      rw [e2] at hl'; have := h.bl l hl'; omega
    · have := h.nb; show c.blks.length ≤ _; omega
    · have := h.tot; show c.blks.flatten.length + (c.built ++ [ntOf 1 (c.pk t d)]).length ≤ _; rw [List.length_append]; simp only [List.length_cons, List.length_nil]; omega
    · have := h.n; show c.n ≤ _; omega
  · rw [if_neg e]; exact h.mono (by omega)
theorem recvC_ok {c : ChV} (h : ChOk c) (hb : c.built.length < 1000) (f : Int) (q t : Nat) (d s : ByteArray) (H : Nat) : ChOk (recvC c f q t d s H) := by
  unfold recvC
  split
  · exact ((h.set _ _).set _ _).note hb _ _
  · exact h
theorem ChK.recv {m : Nat} {c : ChV} (h : ChK m c) (hm : m < 900) (f : Int) (q t : Nat) (d s : ByteArray) (H : Nat) : ChK (m + 1) (recvC c f q t d s H) := by
  have hok := recvC_ok h.ok (by have := h.tot; omega) f q t d s H
  unfold recvC at hok ⊢
  by_cases e : firstE (recvE c f q t d s H) = 0
  · rw [if_pos e] at hok ⊢
    generalize (⟨#[1]⟩ : ByteArray) = one at *
    generalize ansD ⟨f, (q : Int), (t : Int), d⟩ = an at *
    obtain ⟨e1, e2⟩ := setV_same c.st (keyT 114 q) one
    obtain ⟨e3, e4⟩ := setV_same (setV c.st (keyT 114 q) one).1 (keyT 97 q) an
    refine ⟨hok, ?_, fun l hl => ?_, ?_, ?_, ?_⟩
    · have g1 := setV_len c.st h.ok.st (keyT 114 q) one
      have g2 := setV_len (setV c.st (keyT 114 q) one).1 (setV_ok h.ok.st _ _) (keyT 97 q) an
      have := h.now
      show (setV (setV c.st (keyT 114 q) one).1 (keyT 97 q) an).1.now.length ≤ _; omega
    · have hl' : l ∈ (setV (setV c.st (keyT 114 q) one).1 (keyT 97 q) an).1.blks := hl
      rw [e4, e2] at hl'; have := h.bl l hl'; omega
    · have := h.nb; show c.blks.length ≤ _; omega
    · have := h.tot; show c.blks.flatten.length + (c.built ++ [ntOf 2 ⟨f, (q : Int), (t : Int), d⟩]).length ≤ _; rw [List.length_append]; simp only [List.length_cons, List.length_nil]; omega
    · have := h.n; show c.n ≤ _; omega
  · rw [if_neg e]; exact h.mono (by omega)
theorem setlC_ok {c : ChV} (h : ChOk c) (hb : c.built.length < 1000) (k f : Int) (q t : Nat) (d : ByteArray) (es : List Int) : ChOk (setlC c k f q t d es) := by
  unfold setlC
  split
  · exact (h.del _).note hb _ _
  · exact h
theorem ChK.setl {m : Nat} {c : ChV} (h : ChK m c) (hm : m < 900) (k f : Int) (q t : Nat) (d : ByteArray) (es : List Int) : ChK (m + 1) (setlC c k f q t d es) := by
  have hok := setlC_ok h.ok (by have := h.tot; omega) k f q t d es
  unfold setlC at hok ⊢
  by_cases e : firstE (setlE c f q t d es) = 0
  · rw [if_pos e] at hok ⊢
    obtain ⟨e1, e2⟩ := delV_same c.st (keyT 99 q)
    refine ⟨hok, ?_, fun l hl => ?_, ?_, ?_, ?_⟩
    · have g1 := delV_len c.st (keyT 99 q)
      have := h.now
      show (delV c.st (keyT 99 q)).1.now.length ≤ _; omega
    · have hl' : l ∈ (delV c.st (keyT 99 q)).1.blks := hl
      rw [e2] at hl'; have := h.bl l hl'; omega
    · have := h.nb; show c.blks.length ≤ _; omega
    · have := h.tot; show c.blks.flatten.length + (c.built ++ [ntOf k ⟨f, (q : Int), (t : Int), d⟩]).length ≤ _; rw [List.length_append]; simp only [List.length_cons, List.length_nil]; omega
    · have := h.n; show c.n ≤ _; omega
  · rw [if_neg e]; exact h.mono (by omega)
theorem setF_len (x : Nat) (s : ByteArray) (hs : List Nat) (f : Int → Option ByteArray) : (setF x s hs f).1.length ≤ hs.length + 1 := by
  unfold setF
  split
  · split
    · exact Nat.le_succ _
    · show (ins x hs).length ≤ _
      rw [ins_length]; exact Nat.le_refl _
  · exact Nat.le_succ _
theorem ChK.upd {m : Nat} {c : ChV} (h : ChK m c) (hm : m < 900) (H : Nat) (s : ByteArray) : ChK (m + 1) (updC c H s) := by
  refine ⟨⟨h.ok.id, h.ok.st, ?_, ?_, h.ok.next, h.ok.first, h.ok.len, h.ok.blks, h.ok.built⟩, ?_, fun l hl => ?_, ?_, ?_, ?_⟩
  · have := setF_len H s c.hs c.f; have := h.ok.hs
    show (setF H s c.hs c.f).1.length ≤ c.n + 1; omega
  · have := h.n; show c.n + 1 ≤ 4000; omega
  · have := h.now; show c.st.now.length ≤ _; omega
  · have := h.bl l hl; omega
  · have := h.nb; show c.blks.length ≤ _; omega
  · have := h.tot; show c.blks.flatten.length + c.built.length ≤ _; omega
  · have := h.n; show c.n + 1 ≤ _; omega
theorem ChK.com {m : Nat} {c : ChV} (h : ChK m c) (hm : m < 900) : ChK (m + 1) (comC c) := by
  have hcv := comV_ok h.ok.st
  unfold comC
  by_cases e : (comV c.st).2.2 = 0
  · rw [if_pos e]
    have e1 : (comV c.st).1 = { c.st with blks := c.st.blks ++ [c.st.now] } := by
      unfold comV at e ⊢
      by_cases h1 : c.st.height = 18446744073709551615
      · rw [if_pos h1] at e; cases e
      · rw [if_neg h1] at e ⊢
        by_cases h2 : 4096 ≤ c.st.blks.length
        · rw [if_pos h2] at e; cases e
        · rw [if_neg h2]
    rw [e1] at hcv ⊢
    have ht := h.tot
    refine ⟨⟨h.ok.id, hcv, h.ok.hs, h.ok.n, h.ok.next, h.ok.first, ?_, fun l hl => ?_, by show 0 ≤ 1000; omega⟩, ?_, fun l hl => ?_, ?_, ?_, ?_⟩
    · show (c.blks ++ [c.built]).length = (c.st.blks ++ [c.st.now]).length
      rw [List.length_append, List.length_append, h.ok.len]; rfl
    · rcases List.mem_append.1 hl with hl | hl
      · exact h.ok.blks l hl
      · rw [List.mem_singleton.1 hl]; exact h.ok.built
    · have := h.now; show c.st.now.length ≤ _; omega
    · rcases List.mem_append.1 hl with hl | hl
      · have := h.bl l hl; omega
      · rw [List.mem_singleton.1 hl]; have := h.now; omega
    · have := h.nb; show (c.blks ++ [c.built]).length ≤ _; rw [List.length_append]; simp only [List.length_cons, List.length_nil]; omega
    · show (c.blks ++ [c.built]).flatten.length + ([] : List NtV).length ≤ _
      rw [List.flatten_append, List.length_append]
      simp only [List.flatten_cons, List.flatten_nil, List.append_nil, List.length_nil]; omega
    · have := h.n; show c.n ≤ _; omega
  · rw [if_neg e]; exact h.mono (by omega)
theorem newCh_k (id h seq : Nat) (hid : id ≤ 1) (hs : seq ≠ 0) (hs2 : seq < 18446744073709551616) (hh : h < 18446744073709551616) : ChK 0 (newCh id h seq) :=
  ⟨newCh_ok id h seq hid hs hs2 hh, Nat.le_refl _, fun l hl => by rw [List.mem_singleton.1 (show l ∈ [([] : List PairV)] from hl)]; exact Nat.le_refl _, Nat.le_refl _, Nat.le_refl _, Nat.le_refl _⟩
end Go.Proofs.YtbjchfcoacmaaaaGreatDoor
namespace Go.Proofs.YtbjchfcoacmaaaaGreatDoor
open Go.RowKit
set_option linter.unusedVariables false
/-- the bytes that prove of a map that a key is there, or isn't -/
noncomputable def proveL (l : List PairV) (key : ByteArray) : ByteArray × Int := if isIn l key = true then pfBytes (pfHas l key) else if isKeyB key = false then (⟨#[]⟩, 1) else pfBytes (pfNot l key)
noncomputable def proveV (s : StV) (key : ByteArray) (H : Nat) : ByteArray × Int := if (atV s H).2 = 0 then proveL (atV s H).1 key else (⟨#[]⟩, (atV s H).2)
theorem atV_len {s : StV} {m : Nat} (h : ∀ l ∈ s.blks, l.length ≤ m) (H : Nat) : (atV s H).1.length ≤ m := by
  rcases atV_cases s H with ⟨_, l, hl, e⟩ | e
  · rw [e]
    rcases List.mem_append.1 hl with hl | hl
    · exact h l hl
    · rw [List.mem_singleton.1 hl]; exact Nat.zero_le _
  · rw [e]; exact Nat.zero_le _
section
variable {w : World} {O : Nat → Prop} {B : Nat} {c : ChV}
set_option maxRecDepth 100000 in
set_option maxHeartbeats 1000000 in
theorem cn_prove (key : ByteArray) (H : Nat) (h : ChP w O B c) (hc : ChOk c) (hH : H < 18446744073709551616) (hn : ∀ l ∈ c.st.blks, l.length ≤ 1000) (hL : LaidOk w) : Calls Tryz.prog 25 #[.pointer (some ⟨B, 0, none⟩), .string key, .int .u64 (H : Int)] w fun x w' => x = .returned (.tuple #[.string (proveV c.st key H).1, .int .i64 (proveV c.st key H).2]) ∧ Below w.heap.size w w' := by
  obtain ⟨S, C, Os, Oc, On, vb, vn, Vs, h⟩ := h
  have c1 := h.c1
  have HA := Lib.hid (st_at w Os S c.st H hH h.st hc.st)
  have HS := Lib.hid (atV_small hc.st H)
  have HN := Lib.hid (atV_len hn H)
  have HL := Lib.hid hL
  have HC : Hid ((atV c.st H).2 = 0 ∨ (atV c.st H).2 = 3) := Lib.hid (by
    rcases atV_cases c.st H with ⟨e, _⟩ | e
    · exact Or.inl e
    · rw [e]; exact Or.inr rfl)
  obtain ⟨r, hr⟩ : ∃ r, r = proveV c.st key H := ⟨_, rfl⟩
  rw [← hr]
  have HR := Lib.hid hr
  clear h hc hH hn hL hr
  go_enter Tryz.func25, Tryz.ntmps25
  go_wp2_with fail
  refine HA.out.mono ?_
  rintro x w1 ⟨v, rfl, ⟨A, cap, rfl, hcap, hps, hnew⟩, hb⟩
  obtain ⟨l, hl⟩ : ∃ l, l = (atV c.st H).1 := ⟨_, rfl⟩
  obtain ⟨er, her⟩ : ∃ er, er = (atV c.st H).2 := ⟨_, rfl⟩
  have HRE : Hid (r = if er = 0 then proveL l key else (⟨#[]⟩, er)) := Lib.hid (by rw [HR.out, hl, her]; rfl)
  rw [← hl] at hcap hps HS HN ⊢
  rw [← her] at HC ⊢
  have HB := Lib.hid (And.intro hb (And.intro hcap (And.intro hps (HL.out.later hb))))
  have HSZ := Lib.hid hb.size
  clear hl her hcap hps hnew hb HA HR c1
  rcases HC.out with rfl | rfl
  · have HPR := Lib.hid (pf_present l A cap key w1 HN.out HS.out.2.1 HS.out.fit HB.out.2.2.1 HB.out.2.2.2 HB.out.2.1)
    have HAB := Lib.hid (fun w' h1 h2 => pf_absent l A cap key w' HN.out HS.out.2.1 HS.out.fit h1 h2 HB.out.2.1)
    have HR0 : Hid (r = proveL l key) := Lib.hid (by rw [HRE.out]; rfl)
    clear HRE HC
    go_wp2_with fail
    refine HPR.out.mono ?_
    intro x w2 hpost
    cases his : isIn l key with
    | true =>
      rw [show presV l key = (pfHas l key, 0) from if_pos his] at hpost
      obtain ⟨A2, cap2, ls, rfl, hv, hcp, hA2, b2⟩ := hpost
      have HBY := Lib.hid (pf_bytes _ false A2 cap2 ls _ (hA2.below (Kq.below_alloc w2 (.cells #[.bool false, .slice A2 ls.length cap2] 102))) (by
        have : ls.length = 1 := by rw [← vals_len, hv]; rfl
        omega) (fun z hz => by
        have := (pfHas_mayG HS.out HN.out his).2 z.l (by rw [← hv]; exact List.mem_map_of_mem hz)
        have := this.n; omega))
      have HRV : Hid (pfBytes ⟨false, vals ls⟩ = r) := Lib.hid (by rw [HR0.out, hv]; unfold proveL; rw [if_pos his]; rfl)
      have HF := Lib.hid (HB.out.1.trans (b2.mono HSZ.out))
      have HF2 : Hid (Below w.heap.size w (w2.alloc (.cells #[.bool false, .slice A2 ls.length cap2] 102))) := Lib.hid (HF.out.trans ((Kq.below_alloc w2 _).mono HF.out.size))
      rw [HRV.out] at HBY
      clear hv hcp hA2 b2 his HAB HPR
      rw [show ((pfHas l key).ab : Bool) = false from rfl]
      go_wp2_with fail
      refine HBY.out.mono ?_
      rintro x w3 ⟨rfl, b3⟩
      have HE := Lib.hid (HF2.out.trans (b3.mono HF2.out.size))
      clear b3
      go_wp2
      go_ret2
      exact ⟨rfl, HE.out⟩
    | false =>
      rw [show presV l key = (⟨false, []⟩, 3) from if_neg (by rw [his]; decide)] at hpost
      obtain ⟨A2, cap2, ls, rfl, hv, hcp, hA2, b2⟩ := hpost
      have HF := Lib.hid (HB.out.1.trans (b2.mono HSZ.out))
      have hba := Kq.below_alloc w2 (.cells #[.bool false, .slice A2 ls.length cap2] 102)
      have HF2 : Hid (Below w.heap.size w (w2.alloc (.cells #[.bool false, .slice A2 ls.length cap2] 102)) ∧ PBk (w2.alloc (.cells #[.bool false, .slice A2 ls.length cap2] 102)) w2.heap.size false (.slice A2 ls.length cap2) ∧ PsAt (w2.alloc (.cells #[.bool false, .slice A2 ls.length cap2] 102)) A l ∧ LaidOk (w2.alloc (.cells #[.bool false, .slice A2 ls.length cap2] 102))) := Lib.hid ⟨HF.out.trans (hba.mono HF.out.size), ⟨Kq.blk_new _ _ _ _⟩, (HB.out.2.2.1.below b2).below hba, (HB.out.2.2.2.later b2).later hba⟩
      have HW2 : Hid (w.heap.size ≤ w2.heap.size) := Lib.hid HF.out.size
      obtain ⟨z, hz⟩ : ∃ z, z = w2.alloc (.cells #[.bool false, .slice A2 ls.length cap2] 102) := ⟨_, rfl⟩
      have HIS := Lib.hid his
      clear hv hcp hA2 b2 his HPR hba
      go_wp2_with fail
      rw [← hz] at HF2 ⊢
      clear hz
      refine (HAB.out z HF2.out.2.2.1 HF2.out.2.2.2).mono ?_
      intro x w3 hpost
      cases hik : isKeyB key with
      | false =>
        rw [show absV l key = (⟨false, []⟩, 1) from if_pos hik] at hpost
        obtain ⟨A3, cap3, ls3, rfl, hv, hcp, hA3, b3⟩ := hpost
        have HPB := HF2.out.2.1.below b3
        have c0 := HPB.c0
        have c1 := HPB.c1
        have f0 := HPB.fz 0
        have f1 := HPB.fz 1
        have HRV : Hid (r = (⟨#[]⟩, 1)) := Lib.hid (by rw [HR0.out]; unfold proveL; rw [if_neg (by rw [HIS.out]; decide), if_pos hik])
        have HG : Hid (Below w.heap.size w (filled2 w3 w2.heap.size false (.slice A3 ls3.length cap3))) := Lib.hid (below_far (HF2.out.1.trans (b3.mono HF2.out.1.size)) (filled2_keeps w3 w2.heap.size false (.slice A3 ls3.length cap3)) (Nat.le_refl _) (fun k _ e => by have := HW2.out; have e : k = w2.heap.size := e; omega))
        clear hv hcp hA3 b3 hik HPB
        go_wp2
        go_ret2
        exact ⟨by rw [HRV.out]; rfl, HG.out⟩
      | true =>
        rw [show absV l key = (pfNot l key, 0) from by unfold absV; rw [if_neg (by rw [hik]; decide), if_neg (by rw [HIS.out]; decide)]] at hpost
        obtain ⟨A3, cap3, ls3, rfl, hv, hcp, hA3, b3⟩ := hpost
        have HPB := HF2.out.2.1.below b3
        have c0 := HPB.c0
        have c1 := HPB.c1
        have f0 := HPB.fz 0
        have f1 := HPB.fz 1
        have hMAY := pfNot_mayG (key := key) HS.out HN.out
        have HFB := Lib.hid (HPB.fill true (.slice A3 ls3.length cap3))
        have HBY := Lib.hid (pf_bytes _ true A3 cap3 ls3 (filled2 w3 w2.heap.size true (.slice A3 ls3.length cap3)) ((hA3.keeps (filled2_keeps w3 w2.heap.size true (.slice A3 ls3.length cap3)) (fun k hk e => by
          have e : k = w2.heap.size := e
          have := HF2.out.2.1.lt
          omega))) (by
            have : ls3.length = (pfNot l key).ls.length := by rw [← vals_len, hv]
            have := hMAY.1; omega) (fun q hq => by
            have := (hMAY.2 q.l (by rw [← hv]; exact List.mem_map_of_mem hq)).n; omega))
        have HRV : Hid (pfBytes ⟨true, vals ls3⟩ = r) := Lib.hid (by rw [HR0.out, hv]; unfold proveL; rw [if_neg (by rw [HIS.out]; decide), if_neg (by rw [hik]; decide)]; rfl)
        rw [HRV.out] at HBY
        have HG : Hid (Below w.heap.size w (filled2 w3 w2.heap.size true (.slice A3 ls3.length cap3))) := Lib.hid (below_far (HF2.out.1.trans (b3.mono HF2.out.1.size)) (filled2_keeps w3 w2.heap.size true (.slice A3 ls3.length cap3)) (Nat.le_refl _) (fun k _ e => by have := HW2.out; have e : k = w2.heap.size := e; omega))
        have d0 := HFB.out.c0
        have d1 := HFB.out.c1
        have HT : Hid (filled2 w3 w2.heap.size true (.slice A3 ls3.length cap3) = (w3.setCell ⟨w2.heap.size, 0, none⟩ (.bool true)).setCell ⟨w2.heap.size, 1, none⟩ (.slice A3 ls3.length cap3)) := Lib.hid rfl
        rw [HT.out] at d0 d1
        rw [show ((pfNot l key).ab : Bool) = true from rfl]
        clear hv hcp hA3 b3 hik HPB HAB hMAY
        go_wp2_with fail
        rw [← HT.out]
        refine HBY.out.mono ?_
        rintro x w4 ⟨rfl, b4⟩
        have HE := Lib.hid (HG.out.trans (b4.mono HG.out.size))
        clear b4 d0 d1 c0 c1 f0 f1
        go_wp2
        go_ret2
        exact ⟨rfl, HE.out⟩
  · have HR3 : Hid (r = (⟨#[]⟩, 3)) := Lib.hid (by rw [HRE.out]; rfl)
    clear HRE HC
    go_wp2
    go_ret2
    exact ⟨by rw [HR3.out]; rfl, HB.out.1⟩
end
end Go.Proofs.YtbjchfcoacmaaaaGreatDoor
