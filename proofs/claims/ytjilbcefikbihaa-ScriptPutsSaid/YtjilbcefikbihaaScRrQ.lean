/- carrackref23's rest: is an act without what its kind has zero? Condition: none. -/
import Derived.WalkSpells
import Derived.Outline
import Derived.Deep.MidRow
import Derived.Test.YtjilbcefikbihaaScSameQ
import Derived.Test.YtjilbcefikbihaaScEnQ
namespace Go.Proofs.Ytjilbcefikbihaa
open Go.RowKit
set_option linter.unusedVariables false
theorem sa_ext {a b : SaV} (h0 : a.k = b.k) (h1 : a.c = b.c) (h2 : a.t = b.t) (h3 : a.d = b.d) (h4 : a.n = b.n) (h5 : a.mk = b.mk) (h6 : a.mt = b.mt) (h7 : a.mh = b.mh) (h8 : a.pf = b.pf) (h9 : a.pq = b.pq) (h10 : a.pt = b.pt) (h11 : a.pd = b.pd) (h12 : a.mp = b.mp) (h13 : a.ws = b.ws) : a = b := by
  cases a; cases b
  simp only at h0 h1 h2 h3 h4 h5 h6 h7 h8 h9 h10 h11 h12 h13
  subst h0 h1 h2 h3 h4 h5 h6 h7 h8 h9 h10 h11 h12 h13
  rfl
theorem ke_0 (a : SaV) (hk : a.k = 0) : a = (fmOf 0).keep a (zeroK 0) ↔ (a.n = 0 ∧ a.mk = 0 ∧ a.mt = 0 ∧ a.mh = 0 ∧ a.pf = 0 ∧ a.pq = 0 ∧ a.pt = 0 ∧ a.pd = ⟨#[]⟩ ∧ a.mp = ⟨#[]⟩ ∧ a.ws = []) := by
  constructor
  · intro h
    exact ⟨(congrArg SaV.n h).trans rfl, (congrArg SaV.mk h).trans rfl, (congrArg SaV.mt h).trans rfl, (congrArg SaV.mh h).trans rfl, (congrArg SaV.pf h).trans rfl, (congrArg SaV.pq h).trans rfl, (congrArg SaV.pt h).trans rfl, (congrArg SaV.pd h).trans rfl, (congrArg SaV.mp h).trans rfl, (congrArg SaV.ws h).trans rfl⟩
  · rintro ⟨r_n, r_mk, r_mt, r_mh, r_pf, r_pq, r_pt, r_pd, r_mp, r_ws⟩
    exact sa_ext hk rfl rfl rfl r_n r_mk r_mt r_mh r_pf r_pq r_pt r_pd r_mp r_ws
theorem ke_1 (a : SaV) (hk : a.k = 1) : a = (fmOf 1).keep a (zeroK 1) ↔ (a.t = 0 ∧ a.d = ⟨#[]⟩ ∧ a.n = 0 ∧ a.mk = 0 ∧ a.mt = 0 ∧ a.mh = 0 ∧ a.pf = 0 ∧ a.pq = 0 ∧ a.pt = 0 ∧ a.pd = ⟨#[]⟩ ∧ a.mp = ⟨#[]⟩ ∧ a.ws = []) := by
  constructor
  · intro h
    exact ⟨(congrArg SaV.t h).trans rfl, (congrArg SaV.d h).trans rfl, (congrArg SaV.n h).trans rfl, (congrArg SaV.mk h).trans rfl, (congrArg SaV.mt h).trans rfl, (congrArg SaV.mh h).trans rfl, (congrArg SaV.pf h).trans rfl, (congrArg SaV.pq h).trans rfl, (congrArg SaV.pt h).trans rfl, (congrArg SaV.pd h).trans rfl, (congrArg SaV.mp h).trans rfl, (congrArg SaV.ws h).trans rfl⟩
  · rintro ⟨r_t, r_d, r_n, r_mk, r_mt, r_mh, r_pf, r_pq, r_pt, r_pd, r_mp, r_ws⟩
    exact sa_ext hk rfl r_t r_d r_n r_mk r_mt r_mh r_pf r_pq r_pt r_pd r_mp r_ws
theorem ke_2 (a : SaV) (hk : a.k = 2) : a = (fmOf 2).keep a (zeroK 2) ↔ (a.c = 0 ∧ a.t = 0 ∧ a.d = ⟨#[]⟩ ∧ a.n = 0 ∧ a.mk = 0 ∧ a.mt = 0 ∧ a.mh = 0 ∧ a.pf = 0 ∧ a.pq = 0 ∧ a.pt = 0 ∧ a.pd = ⟨#[]⟩ ∧ a.mp = ⟨#[]⟩ ∧ a.ws = []) := by
  constructor
  · intro h
    exact ⟨(congrArg SaV.c h).trans rfl, (congrArg SaV.t h).trans rfl, (congrArg SaV.d h).trans rfl, (congrArg SaV.n h).trans rfl, (congrArg SaV.mk h).trans rfl, (congrArg SaV.mt h).trans rfl, (congrArg SaV.mh h).trans rfl, (congrArg SaV.pf h).trans rfl, (congrArg SaV.pq h).trans rfl, (congrArg SaV.pt h).trans rfl, (congrArg SaV.pd h).trans rfl, (congrArg SaV.mp h).trans rfl, (congrArg SaV.ws h).trans rfl⟩
  · rintro ⟨r_c, r_t, r_d, r_n, r_mk, r_mt, r_mh, r_pf, r_pq, r_pt, r_pd, r_mp, r_ws⟩
    exact sa_ext hk r_c r_t r_d r_n r_mk r_mt r_mh r_pf r_pq r_pt r_pd r_mp r_ws
theorem ke_3 (a : SaV) (hk : a.k = 3) : a = (fmOf 3).keep a (zeroK 3) ↔ (a.c = 0 ∧ a.t = 0 ∧ a.d = ⟨#[]⟩ ∧ a.mk = 0 ∧ a.mt = 0 ∧ a.mh = 0 ∧ a.pf = 0 ∧ a.pq = 0 ∧ a.pt = 0 ∧ a.pd = ⟨#[]⟩ ∧ a.mp = ⟨#[]⟩ ∧ a.ws = []) := by
  constructor
  · intro h
    exact ⟨(congrArg SaV.c h).trans rfl, (congrArg SaV.t h).trans rfl, (congrArg SaV.d h).trans rfl, (congrArg SaV.mk h).trans rfl, (congrArg SaV.mt h).trans rfl, (congrArg SaV.mh h).trans rfl, (congrArg SaV.pf h).trans rfl, (congrArg SaV.pq h).trans rfl, (congrArg SaV.pt h).trans rfl, (congrArg SaV.pd h).trans rfl, (congrArg SaV.mp h).trans rfl, (congrArg SaV.ws h).trans rfl⟩
  · rintro ⟨r_c, r_t, r_d, r_mk, r_mt, r_mh, r_pf, r_pq, r_pt, r_pd, r_mp, r_ws⟩
    exact sa_ext hk r_c r_t r_d rfl r_mk r_mt r_mh r_pf r_pq r_pt r_pd r_mp r_ws
theorem ke_4 (a : SaV) (hk : a.k = 4) : a = (fmOf 4).keep a (zeroK 4) ↔ (a.c = 0 ∧ a.t = 0 ∧ a.d = ⟨#[]⟩ ∧ a.mk = 0 ∧ a.mt = 0 ∧ a.mh = 0 ∧ a.pf = 0 ∧ a.pq = 0 ∧ a.pt = 0 ∧ a.pd = ⟨#[]⟩ ∧ a.mp = ⟨#[]⟩ ∧ a.ws = []) := by
  constructor
  · intro h
    exact ⟨(congrArg SaV.c h).trans rfl, (congrArg SaV.t h).trans rfl, (congrArg SaV.d h).trans rfl, (congrArg SaV.mk h).trans rfl, (congrArg SaV.mt h).trans rfl, (congrArg SaV.mh h).trans rfl, (congrArg SaV.pf h).trans rfl, (congrArg SaV.pq h).trans rfl, (congrArg SaV.pt h).trans rfl, (congrArg SaV.pd h).trans rfl, (congrArg SaV.mp h).trans rfl, (congrArg SaV.ws h).trans rfl⟩
  · rintro ⟨r_c, r_t, r_d, r_mk, r_mt, r_mh, r_pf, r_pq, r_pt, r_pd, r_mp, r_ws⟩
    exact sa_ext hk r_c r_t r_d rfl r_mk r_mt r_mh r_pf r_pq r_pt r_pd r_mp r_ws
theorem ke_5 (a : SaV) (hk : a.k = 5) : a = (fmOf 5).keep a (zeroK 5) ↔ (a.c = 0 ∧ a.t = 0 ∧ a.d = ⟨#[]⟩ ∧ a.mk = 0 ∧ a.mt = 0 ∧ a.mh = 0 ∧ a.pf = 0 ∧ a.pq = 0 ∧ a.pt = 0 ∧ a.pd = ⟨#[]⟩ ∧ a.mp = ⟨#[]⟩ ∧ a.ws = []) := by
  constructor
  · intro h
    exact ⟨(congrArg SaV.c h).trans rfl, (congrArg SaV.t h).trans rfl, (congrArg SaV.d h).trans rfl, (congrArg SaV.mk h).trans rfl, (congrArg SaV.mt h).trans rfl, (congrArg SaV.mh h).trans rfl, (congrArg SaV.pf h).trans rfl, (congrArg SaV.pq h).trans rfl, (congrArg SaV.pt h).trans rfl, (congrArg SaV.pd h).trans rfl, (congrArg SaV.mp h).trans rfl, (congrArg SaV.ws h).trans rfl⟩
  · rintro ⟨r_c, r_t, r_d, r_mk, r_mt, r_mh, r_pf, r_pq, r_pt, r_pd, r_mp, r_ws⟩
    exact sa_ext hk r_c r_t r_d rfl r_mk r_mt r_mh r_pf r_pq r_pt r_pd r_mp r_ws
theorem ke_6 (a : SaV) (hk : a.k = 6) : a = (fmOf 6).keep a (zeroK 6) ↔ (a.c = 0 ∧ a.t = 0 ∧ a.d = ⟨#[]⟩ ∧ a.n = 0 ∧ a.ws = []) := by
  constructor
  · intro h
    exact ⟨(congrArg SaV.c h).trans rfl, (congrArg SaV.t h).trans rfl, (congrArg SaV.d h).trans rfl, (congrArg SaV.n h).trans rfl, (congrArg SaV.ws h).trans rfl⟩
  · rintro ⟨r_c, r_t, r_d, r_n, r_ws⟩
    exact sa_ext hk r_c r_t r_d r_n rfl rfl rfl rfl rfl rfl rfl rfl r_ws
theorem ke_7 (a : SaV) (hk : a.k = 7) : a = (fmOf 7).keep a (zeroK 7) ↔ (a.c = 0 ∧ a.t = 0 ∧ a.d = ⟨#[]⟩ ∧ a.mk = 0 ∧ a.mt = 0 ∧ a.mh = 0 ∧ a.pf = 0 ∧ a.pq = 0 ∧ a.pt = 0 ∧ a.pd = ⟨#[]⟩ ∧ a.mp = ⟨#[]⟩ ∧ a.ws = []) := by
  constructor
  · intro h
    exact ⟨(congrArg SaV.c h).trans rfl, (congrArg SaV.t h).trans rfl, (congrArg SaV.d h).trans rfl, (congrArg SaV.mk h).trans rfl, (congrArg SaV.mt h).trans rfl, (congrArg SaV.mh h).trans rfl, (congrArg SaV.pf h).trans rfl, (congrArg SaV.pq h).trans rfl, (congrArg SaV.pt h).trans rfl, (congrArg SaV.pd h).trans rfl, (congrArg SaV.mp h).trans rfl, (congrArg SaV.ws h).trans rfl⟩
  · rintro ⟨r_c, r_t, r_d, r_mk, r_mt, r_mh, r_pf, r_pq, r_pt, r_pd, r_mp, r_ws⟩
    exact sa_ext hk r_c r_t r_d rfl r_mk r_mt r_mh r_pf r_pq r_pt r_pd r_mp r_ws
theorem ke_8 (a : SaV) (hk : a.k = 8) : a = (fmOf 8).keep a (zeroK 8) ↔ (a.c = 0 ∧ a.t = 0 ∧ a.d = ⟨#[]⟩ ∧ a.n = 0 ∧ a.mk = 0 ∧ a.mt = 0 ∧ a.mh = 0 ∧ a.pf = 0 ∧ a.pq = 0 ∧ a.pt = 0 ∧ a.pd = ⟨#[]⟩ ∧ a.mp = ⟨#[]⟩) := by
  constructor
  · intro h
    exact ⟨(congrArg SaV.c h).trans rfl, (congrArg SaV.t h).trans rfl, (congrArg SaV.d h).trans rfl, (congrArg SaV.n h).trans rfl, (congrArg SaV.mk h).trans rfl, (congrArg SaV.mt h).trans rfl, (congrArg SaV.mh h).trans rfl, (congrArg SaV.pf h).trans rfl, (congrArg SaV.pq h).trans rfl, (congrArg SaV.pt h).trans rfl, (congrArg SaV.pd h).trans rfl, (congrArg SaV.mp h).trans rfl⟩
  · rintro ⟨r_c, r_t, r_d, r_n, r_mk, r_mt, r_mh, r_pf, r_pq, r_pt, r_pd, r_mp⟩
    exact sa_ext hk r_c r_t r_d r_n r_mk r_mt r_mh r_pf r_pq r_pt r_pd r_mp rfl
end Go.Proofs.Ytjilbcefikbihaa
