/- carrackref23's rest: is an act without what its kind has zero? Condition: none. -/
import Derived.WalkSpells
import Derived.Outline
import Derived.Deep.MidRow
import Derived.Test.YtjilbcefikbihaaScRrQ
namespace Go.Proofs.Ytjilbcefikbihaa
open Go.RowKit
set_option linter.unusedVariables false
set_option maxRecDepth 100000 in
set_option maxHeartbeats 4000000 in
theorem rr_6 (a : SaV) (sv : Value) (w : World) (hk : a.k = 6) (hws : WsAt w sv a.ws) :
    Calls Try.prog 23 #[.agg #[.int .i64 a.k, .int .i64 a.c, .int .u64 a.t, .string a.d, .int .i64 a.n, .int .i64 a.mk, .int .i64 a.mt, .int .u64 a.mh, .int .i64 a.pf, .int .u64 a.pq, .int .u64 a.pt, .string a.pd, .string a.mp, sv]] w fun x w' => x = .returned (.bool (decide (a = (fmOf 6).keep a (zeroK 6)))) ∧ Below w.heap.size w w' := by
  obtain ⟨r, hr⟩ : ∃ r, r = decide (a = (fmOf 6).keep a (zeroK 6)) := ⟨_, rfl⟩
  rw [← hr]
  have HR : Hid (r = true ↔ (a.c = 0 ∧ a.t = 0 ∧ a.d = ⟨#[]⟩ ∧ a.n = 0 ∧ a.ws = [])) := Lib.hid (by rw [hr, decide_eq_true_iff]; exact ke_6 a hk)
  obtain ⟨A1, cap1, rfl, hA⟩ := hws
  clear hA hr
  rw [hk]
  have HB : Hid (Below w.heap.size w (w.alloc (.cells #[.int .i64 6, .int .i64 a.c, .int .u64 a.t, .string a.d, .int .i64 a.n, .int .i64 a.mk, .int .i64 a.mt, .int .u64 a.mh, .int .i64 a.pf, .int .u64 a.pq, .int .u64 a.pt, .string a.pd, .string a.mp, .slice A1 a.ws.length cap1] 29))) := Lib.hid (Kq.below_alloc _ _)
  by_cases e_c : a.c = 0
  case neg =>
    have HF : Hid (r = false) := Lib.hid (Bool.eq_false_iff.2 (fun h => by obtain ⟨r_c, r_t, r_d, r_n, r_ws⟩ := HR.out.1 h; exact e_c r_c))
    have q_c : (a.c == 0) = false := by simp [e_c]
    clear e_c
    go_enter Try.func23, Try.ntmps23
    go_wp2
    go_ret
    refine ⟨by rw [HF.out]; rfl, ?_⟩
    repeat refine Below.setCell ?_ (Nat.le_refl _) _
    exact Kq.below_alloc _ _
  have HE_c := Lib.hid e_c
  have q_c : (a.c == 0) = true := by simp [e_c]
  clear e_c
  by_cases e_t : a.t = 0
  case neg =>
    have HF : Hid (r = false) := Lib.hid (Bool.eq_false_iff.2 (fun h => by obtain ⟨r_c, r_t, r_d, r_n, r_ws⟩ := HR.out.1 h; exact e_t r_t))
    have q_t : (a.t == 0) = false := by simp [e_t]
    clear e_t
    go_enter Try.func23, Try.ntmps23
    go_wp2
    go_ret
    refine ⟨by rw [HF.out]; rfl, ?_⟩
    repeat refine Below.setCell ?_ (Nat.le_refl _) _
    exact Kq.below_alloc _ _
  have HE_t := Lib.hid e_t
  have q_t : (a.t == 0) = true := by simp [e_t]
  clear e_t
  by_cases e_d : a.d = ⟨#[]⟩
  case neg =>
    have HF : Hid (r = false) := Lib.hid (Bool.eq_false_iff.2 (fun h => by obtain ⟨r_c, r_t, r_d, r_n, r_ws⟩ := HR.out.1 h; exact e_d r_d))
    have q_d : (a.d.toList == []) = false := by rw [← show (⟨#[]⟩ : ByteArray).toList = [] from by rw [ByteArray.toList_eq], ba_beqS]; exact decide_eq_false e_d
    clear e_d
    go_enter Try.func23, Try.ntmps23
    go_wp2
    go_ret
    refine ⟨by rw [HF.out]; rfl, ?_⟩
    repeat refine Below.setCell ?_ (Nat.le_refl _) _
    exact Kq.below_alloc _ _
  have HE_d := Lib.hid e_d
  have q_d : (a.d.toList == []) = true := by rw [← show (⟨#[]⟩ : ByteArray).toList = [] from by rw [ByteArray.toList_eq], ba_beqS]; exact decide_eq_true e_d
  clear e_d
  by_cases e_n : a.n = 0
  case neg =>
    have HF : Hid (r = false) := Lib.hid (Bool.eq_false_iff.2 (fun h => by obtain ⟨r_c, r_t, r_d, r_n, r_ws⟩ := HR.out.1 h; exact e_n r_n))
    have q_n : (a.n == 0) = false := by simp [e_n]
    clear e_n
    go_enter Try.func23, Try.ntmps23
    go_wp2
    go_ret
    refine ⟨by rw [HF.out]; rfl, ?_⟩
    repeat refine Below.setCell ?_ (Nat.le_refl _) _
    exact Kq.below_alloc _ _
  have HE_n := Lib.hid e_n
  have q_n : (a.n == 0) = true := by simp [e_n]
  clear e_n
  by_cases e_ws : a.ws = []
  case neg =>
    have HF : Hid (r = false) := Lib.hid (Bool.eq_false_iff.2 (fun h => by obtain ⟨r_c, r_t, r_d, r_n, r_ws⟩ := HR.out.1 h; exact e_ws r_ws))
    have q_ws : ((a.ws.length : Int) == 0) = false := by have := List.length_pos_iff.2 e_ws; simp; omega
    have q_ws2 : (a.ws.length == 0) = false := by have := List.length_pos_iff.2 e_ws; simp; omega
    clear e_ws
    go_enter Try.func23, Try.ntmps23
    go_wp2
    go_ret
    refine ⟨by rw [HF.out]; rfl, ?_⟩
    repeat refine Below.setCell ?_ (Nat.le_refl _) _
    exact Kq.below_alloc _ _
  have HE_ws := Lib.hid e_ws
  have q_ws : ((a.ws.length : Int) == 0) = true := by simp [e_ws]
  have q_ws2 : (a.ws.length == 0) = true := by simp [e_ws]
  clear e_ws
  have HF : Hid (r = true) := Lib.hid (HR.out.2 ⟨HE_c.out, HE_t.out, HE_d.out, HE_n.out, HE_ws.out⟩)
  go_enter Try.func23, Try.ntmps23
  go_wp2
  go_ret
  refine ⟨by rw [HF.out]; rfl, ?_⟩
  repeat refine Below.setCell ?_ (Nat.le_refl _) _
  exact Kq.below_alloc _ _
set_option maxRecDepth 100000 in
set_option maxHeartbeats 4000000 in
theorem rr_7 (a : SaV) (sv : Value) (w : World) (hk : a.k = 7) (hws : WsAt w sv a.ws) :
    Calls Try.prog 23 #[.agg #[.int .i64 a.k, .int .i64 a.c, .int .u64 a.t, .string a.d, .int .i64 a.n, .int .i64 a.mk, .int .i64 a.mt, .int .u64 a.mh, .int .i64 a.pf, .int .u64 a.pq, .int .u64 a.pt, .string a.pd, .string a.mp, sv]] w fun x w' => x = .returned (.bool (decide (a = (fmOf 7).keep a (zeroK 7)))) ∧ Below w.heap.size w w' := by
  obtain ⟨r, hr⟩ : ∃ r, r = decide (a = (fmOf 7).keep a (zeroK 7)) := ⟨_, rfl⟩
  rw [← hr]
  have HR : Hid (r = true ↔ (a.c = 0 ∧ a.t = 0 ∧ a.d = ⟨#[]⟩ ∧ a.mk = 0 ∧ a.mt = 0 ∧ a.mh = 0 ∧ a.pf = 0 ∧ a.pq = 0 ∧ a.pt = 0 ∧ a.pd = ⟨#[]⟩ ∧ a.mp = ⟨#[]⟩ ∧ a.ws = [])) := Lib.hid (by rw [hr, decide_eq_true_iff]; exact ke_7 a hk)
  obtain ⟨A1, cap1, rfl, hA⟩ := hws
  clear hA hr
  rw [hk]
  have HB : Hid (Below w.heap.size w (w.alloc (.cells #[.int .i64 7, .int .i64 a.c, .int .u64 a.t, .string a.d, .int .i64 a.n, .int .i64 a.mk, .int .i64 a.mt, .int .u64 a.mh, .int .i64 a.pf, .int .u64 a.pq, .int .u64 a.pt, .string a.pd, .string a.mp, .slice A1 a.ws.length cap1] 29))) := Lib.hid (Kq.below_alloc _ _)
  by_cases e_c : a.c = 0
  case neg =>
    have HF : Hid (r = false) := Lib.hid (Bool.eq_false_iff.2 (fun h => by obtain ⟨r_c, r_t, r_d, r_mk, r_mt, r_mh, r_pf, r_pq, r_pt, r_pd, r_mp, r_ws⟩ := HR.out.1 h; exact e_c r_c))
    have q_c : (a.c == 0) = false := by simp [e_c]
    clear e_c
    go_enter Try.func23, Try.ntmps23
    go_wp2
    go_ret
    refine ⟨by rw [HF.out]; rfl, ?_⟩
    repeat refine Below.setCell ?_ (Nat.le_refl _) _
    exact Kq.below_alloc _ _
  have HE_c := Lib.hid e_c
  have q_c : (a.c == 0) = true := by simp [e_c]
  clear e_c
  by_cases e_t : a.t = 0
  case neg =>
    have HF : Hid (r = false) := Lib.hid (Bool.eq_false_iff.2 (fun h => by obtain ⟨r_c, r_t, r_d, r_mk, r_mt, r_mh, r_pf, r_pq, r_pt, r_pd, r_mp, r_ws⟩ := HR.out.1 h; exact e_t r_t))
    have q_t : (a.t == 0) = false := by simp [e_t]
    clear e_t
    go_enter Try.func23, Try.ntmps23
    go_wp2
    go_ret
    refine ⟨by rw [HF.out]; rfl, ?_⟩
    repeat refine Below.setCell ?_ (Nat.le_refl _) _
    exact Kq.below_alloc _ _
  have HE_t := Lib.hid e_t
  have q_t : (a.t == 0) = true := by simp [e_t]
  clear e_t
  by_cases e_d : a.d = ⟨#[]⟩
  case neg =>
    have HF : Hid (r = false) := Lib.hid (Bool.eq_false_iff.2 (fun h => by obtain ⟨r_c, r_t, r_d, r_mk, r_mt, r_mh, r_pf, r_pq, r_pt, r_pd, r_mp, r_ws⟩ := HR.out.1 h; exact e_d r_d))
    have q_d : (a.d.toList == []) = false := by rw [← show (⟨#[]⟩ : ByteArray).toList = [] from by rw [ByteArray.toList_eq], ba_beqS]; exact decide_eq_false e_d
    clear e_d
    go_enter Try.func23, Try.ntmps23
    go_wp2
    go_ret
    refine ⟨by rw [HF.out]; rfl, ?_⟩
    repeat refine Below.setCell ?_ (Nat.le_refl _) _
    exact Kq.below_alloc _ _
  have HE_d := Lib.hid e_d
  have q_d : (a.d.toList == []) = true := by rw [← show (⟨#[]⟩ : ByteArray).toList = [] from by rw [ByteArray.toList_eq], ba_beqS]; exact decide_eq_true e_d
  clear e_d
  by_cases e_mk : a.mk = 0
  case neg =>
    have HF : Hid (r = false) := Lib.hid (Bool.eq_false_iff.2 (fun h => by obtain ⟨r_c, r_t, r_d, r_mk, r_mt, r_mh, r_pf, r_pq, r_pt, r_pd, r_mp, r_ws⟩ := HR.out.1 h; exact e_mk r_mk))
    have q_mk : (a.mk == 0) = false := by simp [e_mk]
    clear e_mk
    go_enter Try.func23, Try.ntmps23
    go_wp2
    go_ret
    refine ⟨by rw [HF.out]; rfl, ?_⟩
    repeat refine Below.setCell ?_ (Nat.le_refl _) _
    exact Kq.below_alloc _ _
  have HE_mk := Lib.hid e_mk
  have q_mk : (a.mk == 0) = true := by simp [e_mk]
  clear e_mk
  by_cases e_mt : a.mt = 0
  case neg =>
    have HF : Hid (r = false) := Lib.hid (Bool.eq_false_iff.2 (fun h => by obtain ⟨r_c, r_t, r_d, r_mk, r_mt, r_mh, r_pf, r_pq, r_pt, r_pd, r_mp, r_ws⟩ := HR.out.1 h; exact e_mt r_mt))
    have q_mt : (a.mt == 0) = false := by simp [e_mt]
    clear e_mt
    go_enter Try.func23, Try.ntmps23
    go_wp2
    go_ret
    refine ⟨by rw [HF.out]; rfl, ?_⟩
    repeat refine Below.setCell ?_ (Nat.le_refl _) _
    exact Kq.below_alloc _ _
  have HE_mt := Lib.hid e_mt
  have q_mt : (a.mt == 0) = true := by simp [e_mt]
  clear e_mt
  by_cases e_mh : a.mh = 0
  case neg =>
    have HF : Hid (r = false) := Lib.hid (Bool.eq_false_iff.2 (fun h => by obtain ⟨r_c, r_t, r_d, r_mk, r_mt, r_mh, r_pf, r_pq, r_pt, r_pd, r_mp, r_ws⟩ := HR.out.1 h; exact e_mh r_mh))
    have q_mh : (a.mh == 0) = false := by simp [e_mh]
    clear e_mh
    go_enter Try.func23, Try.ntmps23
    go_wp2
    go_ret
    refine ⟨by rw [HF.out]; rfl, ?_⟩
    repeat refine Below.setCell ?_ (Nat.le_refl _) _
    exact Kq.below_alloc _ _
  have HE_mh := Lib.hid e_mh
  have q_mh : (a.mh == 0) = true := by simp [e_mh]
  clear e_mh
  by_cases e_pf : a.pf = 0
  case neg =>
    have HF : Hid (r = false) := Lib.hid (Bool.eq_false_iff.2 (fun h => by obtain ⟨r_c, r_t, r_d, r_mk, r_mt, r_mh, r_pf, r_pq, r_pt, r_pd, r_mp, r_ws⟩ := HR.out.1 h; exact e_pf r_pf))
    have q_pf : (a.pf == 0) = false := by simp [e_pf]
    clear e_pf
    go_enter Try.func23, Try.ntmps23
    go_wp2
    go_ret
    refine ⟨by rw [HF.out]; rfl, ?_⟩
    repeat refine Below.setCell ?_ (Nat.le_refl _) _
    exact Kq.below_alloc _ _
  have HE_pf := Lib.hid e_pf
  have q_pf : (a.pf == 0) = true := by simp [e_pf]
  clear e_pf
  by_cases e_pq : a.pq = 0
  case neg =>
    have HF : Hid (r = false) := Lib.hid (Bool.eq_false_iff.2 (fun h => by obtain ⟨r_c, r_t, r_d, r_mk, r_mt, r_mh, r_pf, r_pq, r_pt, r_pd, r_mp, r_ws⟩ := HR.out.1 h; exact e_pq r_pq))
    have q_pq : (a.pq == 0) = false := by simp [e_pq]
    clear e_pq
    go_enter Try.func23, Try.ntmps23
    go_wp2
    go_ret
    refine ⟨by rw [HF.out]; rfl, ?_⟩
    repeat refine Below.setCell ?_ (Nat.le_refl _) _
    exact Kq.below_alloc _ _
  have HE_pq := Lib.hid e_pq
  have q_pq : (a.pq == 0) = true := by simp [e_pq]
  clear e_pq
  by_cases e_pt : a.pt = 0
  case neg =>
    have HF : Hid (r = false) := Lib.hid (Bool.eq_false_iff.2 (fun h => by obtain ⟨r_c, r_t, r_d, r_mk, r_mt, r_mh, r_pf, r_pq, r_pt, r_pd, r_mp, r_ws⟩ := HR.out.1 h; exact e_pt r_pt))
    have q_pt : (a.pt == 0) = false := by simp [e_pt]
    clear e_pt
    go_enter Try.func23, Try.ntmps23
    go_wp2
    go_ret
    refine ⟨by rw [HF.out]; rfl, ?_⟩
    repeat refine Below.setCell ?_ (Nat.le_refl _) _
    exact Kq.below_alloc _ _
  have HE_pt := Lib.hid e_pt
  have q_pt : (a.pt == 0) = true := by simp [e_pt]
  clear e_pt
  by_cases e_pd : a.pd = ⟨#[]⟩
  case neg =>
    have HF : Hid (r = false) := Lib.hid (Bool.eq_false_iff.2 (fun h => by obtain ⟨r_c, r_t, r_d, r_mk, r_mt, r_mh, r_pf, r_pq, r_pt, r_pd, r_mp, r_ws⟩ := HR.out.1 h; exact e_pd r_pd))
    have q_pd : (a.pd.toList == []) = false := by rw [← show (⟨#[]⟩ : ByteArray).toList = [] from by rw [ByteArray.toList_eq], ba_beqS]; exact decide_eq_false e_pd
    clear e_pd
    go_enter Try.func23, Try.ntmps23
    go_wp2
    go_ret
    refine ⟨by rw [HF.out]; rfl, ?_⟩
    repeat refine Below.setCell ?_ (Nat.le_refl _) _
    exact Kq.below_alloc _ _
  have HE_pd := Lib.hid e_pd
  have q_pd : (a.pd.toList == []) = true := by rw [← show (⟨#[]⟩ : ByteArray).toList = [] from by rw [ByteArray.toList_eq], ba_beqS]; exact decide_eq_true e_pd
  clear e_pd
  by_cases e_mp : a.mp = ⟨#[]⟩
  case neg =>
    have HF : Hid (r = false) := Lib.hid (Bool.eq_false_iff.2 (fun h => by obtain ⟨r_c, r_t, r_d, r_mk, r_mt, r_mh, r_pf, r_pq, r_pt, r_pd, r_mp, r_ws⟩ := HR.out.1 h; exact e_mp r_mp))
    have q_mp : (a.mp.toList == []) = false := by rw [← show (⟨#[]⟩ : ByteArray).toList = [] from by rw [ByteArray.toList_eq], ba_beqS]; exact decide_eq_false e_mp
    clear e_mp
    go_enter Try.func23, Try.ntmps23
    go_wp2
    go_ret
    refine ⟨by rw [HF.out]; rfl, ?_⟩
    repeat refine Below.setCell ?_ (Nat.le_refl _) _
    exact Kq.below_alloc _ _
  have HE_mp := Lib.hid e_mp
  have q_mp : (a.mp.toList == []) = true := by rw [← show (⟨#[]⟩ : ByteArray).toList = [] from by rw [ByteArray.toList_eq], ba_beqS]; exact decide_eq_true e_mp
  clear e_mp
  by_cases e_ws : a.ws = []
  case neg =>
    have HF : Hid (r = false) := Lib.hid (Bool.eq_false_iff.2 (fun h => by obtain ⟨r_c, r_t, r_d, r_mk, r_mt, r_mh, r_pf, r_pq, r_pt, r_pd, r_mp, r_ws⟩ := HR.out.1 h; exact e_ws r_ws))
    have q_ws : ((a.ws.length : Int) == 0) = false := by have := List.length_pos_iff.2 e_ws; simp; omega
    have q_ws2 : (a.ws.length == 0) = false := by have := List.length_pos_iff.2 e_ws; simp; omega
    clear e_ws
    go_enter Try.func23, Try.ntmps23
    go_wp2
    go_ret
    refine ⟨by rw [HF.out]; rfl, ?_⟩
    repeat refine Below.setCell ?_ (Nat.le_refl _) _
    exact Kq.below_alloc _ _
  have HE_ws := Lib.hid e_ws
  have q_ws : ((a.ws.length : Int) == 0) = true := by simp [e_ws]
  have q_ws2 : (a.ws.length == 0) = true := by simp [e_ws]
  clear e_ws
  have HF : Hid (r = true) := Lib.hid (HR.out.2 ⟨HE_c.out, HE_t.out, HE_d.out, HE_mk.out, HE_mt.out, HE_mh.out, HE_pf.out, HE_pq.out, HE_pt.out, HE_pd.out, HE_mp.out, HE_ws.out⟩)
  go_enter Try.func23, Try.ntmps23
  go_wp2
  go_ret
  refine ⟨by rw [HF.out]; rfl, ?_⟩
  repeat refine Below.setCell ?_ (Nat.le_refl _) _
  exact Kq.below_alloc _ _
set_option maxRecDepth 100000 in
set_option maxHeartbeats 4000000 in
theorem rr_8 (a : SaV) (sv : Value) (w : World) (hk : a.k = 8) (hws : WsAt w sv a.ws) :
    Calls Try.prog 23 #[.agg #[.int .i64 a.k, .int .i64 a.c, .int .u64 a.t, .string a.d, .int .i64 a.n, .int .i64 a.mk, .int .i64 a.mt, .int .u64 a.mh, .int .i64 a.pf, .int .u64 a.pq, .int .u64 a.pt, .string a.pd, .string a.mp, sv]] w fun x w' => x = .returned (.bool (decide (a = (fmOf 8).keep a (zeroK 8)))) ∧ Below w.heap.size w w' := by
  obtain ⟨r, hr⟩ : ∃ r, r = decide (a = (fmOf 8).keep a (zeroK 8)) := ⟨_, rfl⟩
  rw [← hr]
  have HR : Hid (r = true ↔ (a.c = 0 ∧ a.t = 0 ∧ a.d = ⟨#[]⟩ ∧ a.n = 0 ∧ a.mk = 0 ∧ a.mt = 0 ∧ a.mh = 0 ∧ a.pf = 0 ∧ a.pq = 0 ∧ a.pt = 0 ∧ a.pd = ⟨#[]⟩ ∧ a.mp = ⟨#[]⟩)) := Lib.hid (by rw [hr, decide_eq_true_iff]; exact ke_8 a hk)
  obtain ⟨A1, cap1, rfl, hA⟩ := hws
  clear hA hr
  rw [hk]
  have HB : Hid (Below w.heap.size w (w.alloc (.cells #[.int .i64 8, .int .i64 a.c, .int .u64 a.t, .string a.d, .int .i64 a.n, .int .i64 a.mk, .int .i64 a.mt, .int .u64 a.mh, .int .i64 a.pf, .int .u64 a.pq, .int .u64 a.pt, .string a.pd, .string a.mp, .slice A1 a.ws.length cap1] 29))) := Lib.hid (Kq.below_alloc _ _)
  by_cases e_c : a.c = 0
  case neg =>
    have HF : Hid (r = false) := Lib.hid (Bool.eq_false_iff.2 (fun h => by obtain ⟨r_c, r_t, r_d, r_n, r_mk, r_mt, r_mh, r_pf, r_pq, r_pt, r_pd, r_mp⟩ := HR.out.1 h; exact e_c r_c))
    have q_c : (a.c == 0) = false := by simp [e_c]
    clear e_c
    go_enter Try.func23, Try.ntmps23
    go_wp2
    go_ret
    refine ⟨by rw [HF.out]; rfl, ?_⟩
    repeat refine Below.setCell ?_ (Nat.le_refl _) _
    exact Kq.below_alloc _ _
  have HE_c := Lib.hid e_c
  have q_c : (a.c == 0) = true := by simp [e_c]
  clear e_c
  by_cases e_t : a.t = 0
  case neg =>
    have HF : Hid (r = false) := Lib.hid (Bool.eq_false_iff.2 (fun h => by obtain ⟨r_c, r_t, r_d, r_n, r_mk, r_mt, r_mh, r_pf, r_pq, r_pt, r_pd, r_mp⟩ := HR.out.1 h; exact e_t r_t))
    have q_t : (a.t == 0) = false := by simp [e_t]
    clear e_t
    go_enter Try.func23, Try.ntmps23
    go_wp2
    go_ret
    refine ⟨by rw [HF.out]; rfl, ?_⟩
    repeat refine Below.setCell ?_ (Nat.le_refl _) _
    exact Kq.below_alloc _ _
  have HE_t := Lib.hid e_t
  have q_t : (a.t == 0) = true := by simp [e_t]
  clear e_t
  by_cases e_d : a.d = ⟨#[]⟩
  case neg =>
    have HF : Hid (r = false) := Lib.hid (Bool.eq_false_iff.2 (fun h => by obtain ⟨r_c, r_t, r_d, r_n, r_mk, r_mt, r_mh, r_pf, r_pq, r_pt, r_pd, r_mp⟩ := HR.out.1 h; exact e_d r_d))
    have q_d : (a.d.toList == []) = false := by rw [← show (⟨#[]⟩ : ByteArray).toList = [] from by rw [ByteArray.toList_eq], ba_beqS]; exact decide_eq_false e_d
    clear e_d
    go_enter Try.func23, Try.ntmps23
    go_wp2
    go_ret
    refine ⟨by rw [HF.out]; rfl, ?_⟩
    repeat refine Below.setCell ?_ (Nat.le_refl _) _
    exact Kq.below_alloc _ _
  have HE_d := Lib.hid e_d
  have q_d : (a.d.toList == []) = true := by rw [← show (⟨#[]⟩ : ByteArray).toList = [] from by rw [ByteArray.toList_eq], ba_beqS]; exact decide_eq_true e_d
  clear e_d
  by_cases e_n : a.n = 0
  case neg =>
    have HF : Hid (r = false) := Lib.hid (Bool.eq_false_iff.2 (fun h => by obtain ⟨r_c, r_t, r_d, r_n, r_mk, r_mt, r_mh, r_pf, r_pq, r_pt, r_pd, r_mp⟩ := HR.out.1 h; exact e_n r_n))
    have q_n : (a.n == 0) = false := by simp [e_n]
    clear e_n
    go_enter Try.func23, Try.ntmps23
    go_wp2
    go_ret
    refine ⟨by rw [HF.out]; rfl, ?_⟩
    repeat refine Below.setCell ?_ (Nat.le_refl _) _
    exact Kq.below_alloc _ _
  have HE_n := Lib.hid e_n
  have q_n : (a.n == 0) = true := by simp [e_n]
  clear e_n
  by_cases e_mk : a.mk = 0
  case neg =>
    have HF : Hid (r = false) := Lib.hid (Bool.eq_false_iff.2 (fun h => by obtain ⟨r_c, r_t, r_d, r_n, r_mk, r_mt, r_mh, r_pf, r_pq, r_pt, r_pd, r_mp⟩ := HR.out.1 h; exact e_mk r_mk))
    have q_mk : (a.mk == 0) = false := by simp [e_mk]
    clear e_mk
    go_enter Try.func23, Try.ntmps23
    go_wp2
    go_ret
    refine ⟨by rw [HF.out]; rfl, ?_⟩
    repeat refine Below.setCell ?_ (Nat.le_refl _) _
    exact Kq.below_alloc _ _
  have HE_mk := Lib.hid e_mk
  have q_mk : (a.mk == 0) = true := by simp [e_mk]
  clear e_mk
  by_cases e_mt : a.mt = 0
  case neg =>
    have HF : Hid (r = false) := Lib.hid (Bool.eq_false_iff.2 (fun h => by obtain ⟨r_c, r_t, r_d, r_n, r_mk, r_mt, r_mh, r_pf, r_pq, r_pt, r_pd, r_mp⟩ := HR.out.1 h; exact e_mt r_mt))
    have q_mt : (a.mt == 0) = false := by simp [e_mt]
    clear e_mt
    go_enter Try.func23, Try.ntmps23
    go_wp2
    go_ret
    refine ⟨by rw [HF.out]; rfl, ?_⟩
    repeat refine Below.setCell ?_ (Nat.le_refl _) _
    exact Kq.below_alloc _ _
  have HE_mt := Lib.hid e_mt
  have q_mt : (a.mt == 0) = true := by simp [e_mt]
  clear e_mt
  by_cases e_mh : a.mh = 0
  case neg =>
    have HF : Hid (r = false) := Lib.hid (Bool.eq_false_iff.2 (fun h => by obtain ⟨r_c, r_t, r_d, r_n, r_mk, r_mt, r_mh, r_pf, r_pq, r_pt, r_pd, r_mp⟩ := HR.out.1 h; exact e_mh r_mh))
    have q_mh : (a.mh == 0) = false := by simp [e_mh]
    clear e_mh
    go_enter Try.func23, Try.ntmps23
    go_wp2
    go_ret
    refine ⟨by rw [HF.out]; rfl, ?_⟩
    repeat refine Below.setCell ?_ (Nat.le_refl _) _
    exact Kq.below_alloc _ _
  have HE_mh := Lib.hid e_mh
  have q_mh : (a.mh == 0) = true := by simp [e_mh]
  clear e_mh
  by_cases e_pf : a.pf = 0
  case neg =>
    have HF : Hid (r = false) := Lib.hid (Bool.eq_false_iff.2 (fun h => by obtain ⟨r_c, r_t, r_d, r_n, r_mk, r_mt, r_mh, r_pf, r_pq, r_pt, r_pd, r_mp⟩ := HR.out.1 h; exact e_pf r_pf))
    have q_pf : (a.pf == 0) = false := by simp [e_pf]
    clear e_pf
    go_enter Try.func23, Try.ntmps23
    go_wp2
    go_ret
    refine ⟨by rw [HF.out]; rfl, ?_⟩
    repeat refine Below.setCell ?_ (Nat.le_refl _) _
    exact Kq.below_alloc _ _
  have HE_pf := Lib.hid e_pf
  have q_pf : (a.pf == 0) = true := by simp [e_pf]
  clear e_pf
  by_cases e_pq : a.pq = 0
  case neg =>
    have HF : Hid (r = false) := Lib.hid (Bool.eq_false_iff.2 (fun h => by obtain ⟨r_c, r_t, r_d, r_n, r_mk, r_mt, r_mh, r_pf, r_pq, r_pt, r_pd, r_mp⟩ := HR.out.1 h; exact e_pq r_pq))
    have q_pq : (a.pq == 0) = false := by simp [e_pq]
    clear e_pq
    go_enter Try.func23, Try.ntmps23
    go_wp2
    go_ret
    refine ⟨by rw [HF.out]; rfl, ?_⟩
    repeat refine Below.setCell ?_ (Nat.le_refl _) _
    exact Kq.below_alloc _ _
  have HE_pq := Lib.hid e_pq
  have q_pq : (a.pq == 0) = true := by simp [e_pq]
  clear e_pq
  by_cases e_pt : a.pt = 0
  case neg =>
    have HF : Hid (r = false) := Lib.hid (Bool.eq_false_iff.2 (fun h => by obtain ⟨r_c, r_t, r_d, r_n, r_mk, r_mt, r_mh, r_pf, r_pq, r_pt, r_pd, r_mp⟩ := HR.out.1 h; exact e_pt r_pt))
    have q_pt : (a.pt == 0) = false := by simp [e_pt]
    clear e_pt
    go_enter Try.func23, Try.ntmps23
    go_wp2
    go_ret
    refine ⟨by rw [HF.out]; rfl, ?_⟩
    repeat refine Below.setCell ?_ (Nat.le_refl _) _
    exact Kq.below_alloc _ _
  have HE_pt := Lib.hid e_pt
  have q_pt : (a.pt == 0) = true := by simp [e_pt]
  clear e_pt
  by_cases e_pd : a.pd = ⟨#[]⟩
  case neg =>
    have HF : Hid (r = false) := Lib.hid (Bool.eq_false_iff.2 (fun h => by obtain ⟨r_c, r_t, r_d, r_n, r_mk, r_mt, r_mh, r_pf, r_pq, r_pt, r_pd, r_mp⟩ := HR.out.1 h; exact e_pd r_pd))
    have q_pd : (a.pd.toList == []) = false := by rw [← show (⟨#[]⟩ : ByteArray).toList = [] from by rw [ByteArray.toList_eq], ba_beqS]; exact decide_eq_false e_pd
    clear e_pd
    go_enter Try.func23, Try.ntmps23
    go_wp2
    go_ret
    refine ⟨by rw [HF.out]; rfl, ?_⟩
    repeat refine Below.setCell ?_ (Nat.le_refl _) _
    exact Kq.below_alloc _ _
  have HE_pd := Lib.hid e_pd
  have q_pd : (a.pd.toList == []) = true := by rw [← show (⟨#[]⟩ : ByteArray).toList = [] from by rw [ByteArray.toList_eq], ba_beqS]; exact decide_eq_true e_pd
  clear e_pd
  by_cases e_mp : a.mp = ⟨#[]⟩
  case neg =>
    have HF : Hid (r = false) := Lib.hid (Bool.eq_false_iff.2 (fun h => by obtain ⟨r_c, r_t, r_d, r_n, r_mk, r_mt, r_mh, r_pf, r_pq, r_pt, r_pd, r_mp⟩ := HR.out.1 h; exact e_mp r_mp))
    have q_mp : (a.mp.toList == []) = false := by rw [← show (⟨#[]⟩ : ByteArray).toList = [] from by rw [ByteArray.toList_eq], ba_beqS]; exact decide_eq_false e_mp
    clear e_mp
    go_enter Try.func23, Try.ntmps23
    go_wp2
    go_ret
    refine ⟨by rw [HF.out]; rfl, ?_⟩
    repeat refine Below.setCell ?_ (Nat.le_refl _) _
    exact Kq.below_alloc _ _
  have HE_mp := Lib.hid e_mp
  have q_mp : (a.mp.toList == []) = true := by rw [← show (⟨#[]⟩ : ByteArray).toList = [] from by rw [ByteArray.toList_eq], ba_beqS]; exact decide_eq_true e_mp
  clear e_mp
  have HF : Hid (r = true) := Lib.hid (HR.out.2 ⟨HE_c.out, HE_t.out, HE_d.out, HE_n.out, HE_mk.out, HE_mt.out, HE_mh.out, HE_pf.out, HE_pq.out, HE_pt.out, HE_pd.out, HE_mp.out⟩)
  go_enter Try.func23, Try.ntmps23
  go_wp2
  go_ret
  refine ⟨by rw [HF.out]; rfl, ?_⟩
  repeat refine Below.setCell ?_ (Nat.le_refl _) _
  exact Kq.below_alloc _ _
end Go.Proofs.Ytjilbcefikbihaa
