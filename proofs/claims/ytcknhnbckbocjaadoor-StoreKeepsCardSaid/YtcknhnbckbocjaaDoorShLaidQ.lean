/- Merged: ShNew, ShLaid. Contracts of sha.New, (*Hash).Write, (*Hash).Len, (*Hash).Sum. Condition: the constants lie where they lie; sizes. What the condition 'laid' gives: the constants lie where they lie; and a world that meets it. No condition. -/
import Derived.Test.YtcknhnbckbocjaaDoorShPadQ
import Derived.Test.YtcknhnbckbocjaaDoorRows
import Derived.Lib.LaidTab
import Derived.LaidHandle
import Derived.ProofKit
namespace Go.Proofs.YtcknhnbckbocjaaDoor
open Go.RowKit
set_option linter.unusedVariables false
def FirstAt (w : World) : Prop := ∀ t, t < 8 → w.cell? ⟨0, t, none⟩ = some (.int .u32 (((toL Sh.H0).getD t 0 : Nat) : Int))
structure LaidOk (w : World) : Prop where
  roots : RootsAt w
  first : FirstAt w
  low : 1 < w.heap.size
  low0 : 0 < w.heap.size
theorem LaidOk.below {B : Nat} {w w' : World} (h : LaidOk w) (hb : Below B w w') (h1 : 1 < B) (h0 : 0 < B) : LaidOk w' :=
  ⟨fun t ht => (hb.cell (p := ⟨1, t, none⟩) h1).trans (h.roots t ht), fun t ht => (hb.cell (p := ⟨0, t, none⟩) h0).trans (h.first t ht), Nat.lt_of_lt_of_le h.low hb.size, Nat.lt_of_lt_of_le h.low0 hb.size⟩
theorem LaidOk.later {w w' : World} (h : LaidOk w) (hb : Below w.heap.size w w') : LaidOk w' := h.below hb h.low h.low0
theorem new_cells : (toL Sh.H0).map (fun (x : Nat) => Value.int .u32 (x : Int)) = wcl (toL Sh.H0) := rfl
theorem fed_new (w : World) (t : TypeId) (h : LaidOk w) : Fed (w.alloc (.cells (stc (toL Sh.H0) (List.replicate 64 0) 0) t)) w.heap.size t [] := by
  have hl := h.later (Kq.below_alloc w (.cells (stc (toL Sh.H0) (List.replicate 64 0) 0) t))
  refine ⟨toL Sh.H0, List.replicate 64 0, ⟨Kq.blk_new w _ _ _, rfl, by simp, by decide, fun x hx => by rw [List.eq_of_mem_replicate hx]; decide, hl.roots, h.low, hl.low⟩, ⟨rfl, rfl⟩⟩
theorem wpList_build_as {P : Program} {w : World} {ops : Array Oper} {rest : List Oper} {o : Oper} {a : Act} {Q : Exit → Act → World → Prop} (hg : o.guard = none) (t : TypeId) (parts : Array (Nat × Operand)) (ho : o.op = .build t parts)
    (l : List (Nat × Value)) (hl : parts.toList.map (fun (i, x) => (i, a.eval x)) = l) (c : Array Value) (hc : P.built t l = some c)
    (h : wpList P ops Q rest (a.put o.dst (.agg c)) w) : wpList P ops Q (o :: rest) a w :=
  wpList_build hg t parts ho (by rw [Array.toList_map, hl, hc]; rfl) (by rw [Array.toList_map, hl, hc]; exact h)
def cells0 : Array Value := stc (toL Sh.H0) (List.replicate 64 0) 0
theorem built49 : Tryd.prog.built 128 [(0, .agg (wcl (toL Sh.H0)).toArray)] = some cells0 := by kernel_rfl
theorem built51 : Tryd.prog.built 130 [(0, .agg cells0)] = some cells0 := by kernel_rfl
set_option maxRecDepth 100000 in
set_option maxHeartbeats 2000000 in
theorem sh_new (w : World) (h : LaidOk w) :
    Calls Tryd.prog 60 #[] w fun x w' => x = .returned (.pointer (some ⟨w.heap.size, 0, none⟩)) ∧ Fed w' w.heap.size 130 [] ∧ Below w.heap.size w w' := by
  have hrg : w.rangeAt 0 0 (wcl (toL Sh.H0)) := fun j v hj => by
    have hj8 : j < 8 := by simpa [wcl, toL] using (List.getElem?_eq_some_iff.1 hj).1
    rw [Nat.zero_add, h.first j hj8, ← hj]
    have := wcl_at (toL Sh.H0) j (by simpa [toL] using hj8)
    rw [List.getElem?_toArray] at this
    exact this.symm
  have HLD := Lib.hid hrg
  have HF : Hid (Fed (w.alloc (.cells cells0 130)) w.heap.size 130 []) := Lib.hid (fed_new w 130 h)
  have HB := Lib.hid (Kq.below_alloc w (.cells cells0 130))
  clear hrg h
  obtain ⟨V, hV⟩ : ∃ V, V = (wcl (toL Sh.H0)).toArray := ⟨_, rfl⟩
  have b49 := built49
  have b51 := built51
  rw [← hV] at b49
  have hii : (Tryd.prog.info? 125).map (·.size) = some (wcl (toL Sh.H0)).length := info46
  have HLD2 : Hid (∀ (ops : Array Oper) (rest : List Oper) (o : Oper) (a : Act) (Q : Exit → Act → World → Prop), o.guard = none → o.op = .load 125 (.global 0) → a.eval (.global 0) = .pointer (some ⟨0, 0, none⟩) → wpList Tryd.prog ops Q rest (a.put o.dst (.agg V)) w → wpList Tryd.prog ops Q (o :: rest) a w) := Lib.hid (fun ops rest o a Q hg ho hx h => by
    rw [hV] at h
    exact wpList_load_mid hg 125 (.global 0) ho 0 0 hx (wcl (toL Sh.H0)) _ HLD.out Tryd.underlying125 rfl hii h)
  clear hV hii HLD
  have HB49 := Lib.hid b49
  have HB51 := Lib.hid b51
  clear b49 b51
  generalize cells0 = Z at *
  go_enter Tryd.func60, Tryd.ntmps60
  go_wp2_with (first | (refine HLD2.out _ _ _ _ _ (by rfl) (by rfl) (by rfl) ?_) | (refine wpList_build_as (by rfl) 128 #[(0, .tmp 1)] (by rfl) _ (by rfl) Z HB49.out ?_) | (refine wpList_build_as (by rfl) 130 #[(0, .tmp 2)] (by rfl) _ (by rfl) Z HB51.out ?_))
  go_ret
  exact ⟨rfl, HF.out, HB.out⟩
set_option maxRecDepth 100000 in
set_option maxHeartbeats 1000000 in
theorem sh_write (B : Nat) (t : TypeId) (l : List Nat) (s : ByteArray) (w : World) (h : Fed w B t l) (hs : l.length + s.size ≤ 1000000000) :
    Calls Tryd.prog 61 #[.pointer (some ⟨B, 0, none⟩), .string s] w fun x w' => x = .returned (.tuple #[]) ∧ Fed w' B t (l ++ nl s) ∧ Kq.Keeps (· = B) w w' := by
  have HC := Lib.hid (sh_add B t l s w h hs)
  clear h hs
  go_enter Tryd.func61, Tryd.ntmps61
  go_wp2_with fail
  refine HC.out.mono ?_
  rintro x w1 ⟨rfl, h1⟩
  have H1 := Lib.hid h1
  clear h1
  go_wp2
  go_end0
  exact ⟨rfl, H1.out⟩
theorem digest_eq (l ws b : List Nat) (h : Of (l ++ Sh.padding l.length) ws b) : outL ws 8 = Sh.digest l := by
  rw [h.words, outL_all]
  rfl
theorem padding_lt (n : Nat) : ∀ b ∈ Sh.padding n, b < 256 := by rw [← padL_eight]; exact padL_lt n 8
theorem info49 : (Tryd.prog.info? 128).map (·.size) = some 73 := by kernel_rfl
theorem zero49 : ∀ w, (zeroValue 128).run Tryd.prog w = .ok (.agg (stc (List.replicate 8 0) (List.replicate 64 0) 0)) w :=
  (zero_of_info (n := 73) (by kernel_rfl)).1
theorem stc_one (ws b : List Nat) (n : Nat) : (stc ws b n).all (·.oneCell') = true := by
  unfold stc
  rw [List.all_toArray, List.all_eq_true]
  intro v hv
  simp only [wcl, bcl, List.mem_append, List.mem_map, List.mem_singleton] at hv
  rcases hv with ⟨x, _, rfl⟩ | ⟨x, _, rfl⟩ | rfl <;> rfl
set_option maxRecDepth 100000 in
set_option maxHeartbeats 2000000 in
theorem sh_sumof (B : Nat) (t : TypeId) (l : List Nat) (w : World) (h : Fed w B t l) (hl : l.length ≤ 900000000) :
    Calls Tryd.prog 62 #[.pointer (some ⟨B, 0, none⟩)] w fun x w' => x = .returned (.string (txt (Sh.digest l))) ∧ Below w.heap.size w w' := by
  obtain ⟨ws, b, hS, hO⟩ := h.ex
  have HS := Lib.hid hS
  have HO := Lib.hid hO
  have HZ0 := zero49
  have hsz : (stc ws b l.length).size = 73 := stc_size ws b l.length hS.w8 hS.b64
  have HLD := Lib.hid (And.intro hS.blk (And.intro (show (Tryd.prog.info? 128).map (·.size) = some (stc ws b l.length).size by rw [hsz]; exact info49) (And.intro hsz (stc_one ws b l.length))))
  clear h hS hO hsz
  have HOLD : Hid ((stc (List.replicate 8 0) (List.replicate 64 0) 0).size = 73) := Lib.hid (stc_size _ _ _ (by simp) (by simp))
  obtain ⟨Z, hZ⟩ : ∃ Z, Z = stc (List.replicate 8 0) (List.replicate 64 0) 0 := ⟨_, rfl⟩
  rw [← hZ] at HZ0 HOLD
  clear hZ
  obtain ⟨C, hC⟩ : ∃ C, C = stc ws b l.length := ⟨_, rfl⟩
  have HC := Lib.hid hC
  rw [← hC] at HLD
  clear hC
  go_enter Tryd.func62, Tryd.ntmps62
  go_wp2_with (first | (refine wpList_load_row (by rfl) 128 (.tmp 6) (by rfl) B (by rfl) t C (0, 0) _ HLD.out.1 Tryd.underlying128 rfl HLD.out.2.1 ?_) | (refine wpList_store_row (by rfl) 128 (.tmp 3) (.tmp 7) (by rfl) w.heap.size C (by rfl) (by rfl) 128 Z (Kq.blk_new w _ _ _) HLD.out.2.1 (by rw [HOLD.out, HLD.out.2.2.1]) HLD.out.2.2.2 ?_))
  generalize hw2 : World.setRow _ _ _ = w2
  have HB2 : Hid (Below w.heap.size w w2) := Lib.hid (by rw [← hw2]; exact below_setRow (Kq.below_alloc w _) _ C (Nat.le_refl _))
  have HN : Hid (StS w2 w.heap.size 128 ws b l.length) := Lib.hid (by
    have h2 := HS.out.below HB2.out
    refine ⟨?_, h2.w8, h2.b64, h2.wlt, h2.blt, h2.roots, HS.out.low, h2.low⟩
    rw [← hw2, ← HC.out]
    exact set_row _ _ Z C _ _ (Kq.blk_new w _ _ _))
  clear hw2
  refine (sh_padding B t ws b l.length w2 (HS.out.below HB2.out) (by omega)).mono ?_
  rintro x w3 ⟨rfl, hb3⟩
  have HB3 := Lib.hid (HB2.out.trans (hb3.mono HB2.out.size))
  have hpn : nl (txt (Sh.padding l.length)) = Sh.padding l.length := nl_txt _ (padding_lt _)
  have hpz : (txt (Sh.padding l.length)).size ≤ 200 := by
    rw [txt_size]
    have : (Sh.padding l.length).length = 1 + (64 + 55 - l.length % 64) % 64 + 8 := by simp [Sh.padding, Sh.be8, Sh.be4]; omega
    omega
  have HA := Lib.hid (sh_add w.heap.size 128 l (txt (Sh.padding l.length)) w3 ⟨ws, b, HN.out.below hb3, HO.out⟩ (by omega))
  rw [hpn] at HA
  clear hpn hpz hb3
  go_wp2_with fail
  refine HA.out.mono ?_
  rintro x w4 ⟨rfl, hf4, hk4⟩
  obtain ⟨ws4, b4, hS4, hO4⟩ := hf4.ex
  have HB4 : Hid (Below w.heap.size w w4) := Lib.hid (by
    have k1 : Kq.Keeps (fun j => w.heap.size ≤ j) w w3 := Kq.Keeps.of_below HB3.out (fun j h1 _ => h1)
    exact (k1.trans (hk4.mono (fun j _ e => by rw [e]; exact Nat.le_refl _))).below (Nat.le_refl _) (fun j _ hj => hj))
  have HD := Lib.hid (sh_digest w.heap.size 128 ws4 b4 _ w4 hS4)
  rw [digest_eq l ws4 b4 hO4] at HD
  clear hf4 hk4 hS4 hO4 HA
  go_wp2_with fail
  refine HD.out.mono ?_
  rintro x w5 ⟨rfl, hb5⟩
  have HB5 := Lib.hid (HB4.out.trans (hb5.mono HB4.out.size))
  clear hb5
  go_wp2
  go_ret
  exact ⟨rfl, HB5.out⟩
end Go.Proofs.YtcknhnbckbocjaaDoor
namespace Go.Proofs.YtcknhnbckbocjaaDoor
open Go.RowKit
set_option linter.unusedVariables false
def rootsZ : List Int := Sh.K.map fun (n : Nat) => (n : Int)
def firstZ : List Int := (toL Sh.H0).map fun (n : Nat) => (n : Int)
def bothLaid : List (String × DataW Unit) := [("carrack/sha.roots", Rows.laid_carrack_sha_roots), ("carrack/sha.first", Rows.laid_carrack_sha_first)]
theorem roots_data : (Rows.laid_carrack_sha_roots : DataW Unit) = Lib.tabData .u32 rootsZ := by kernel_rfl
theorem first_data : (Rows.laid_carrack_sha_first : DataW Unit) = Lib.tabData .u32 firstZ := by kernel_rfl
theorem gR : Tryd.prog.globalNamed "carrack/sha.roots" = some 1 := by kernel_rfl
theorem gF : Tryd.prog.globalNamed "carrack/sha.first" = some 0 := by kernel_rfl
theorem gRT : (Tryd.prog.globals[1]?).map (·.type) = some 145 := by kernel_rfl
theorem gFT : (Tryd.prog.globals[0]?).map (·.type) = some 125 := by kernel_rfl
theorem c44 : Tryd.prog.cellsOf 93 = 1 := by kernel_rfl
theorem c59 : Tryd.prog.cellsOf 145 = 64 := by kernel_rfl
theorem c46 : Tryd.prog.cellsOf 125 = 8 := by kernel_rfl
theorem lt_of_cell {W : World} {g i : Nat} {v : Value} (h : W.cell? ⟨g, i, none⟩ = some v) : g < W.heap.size := by
  rcases Nat.lt_or_ge g W.heap.size with h1 | h1
  · exact h1
  · simp [World.cell?, Array.getElem?_eq_none h1] at h
theorem laid_ok {W : World} (h : laidMetH Tryd.prog bothLaid W) : LaidOk W := by
  have h1 : laidMet Tryd.prog [("carrack/sha.roots", Lib.tabData .u32 rootsZ), ("carrack/sha.first", Lib.tabData .u32 firstZ)] W := by
    rw [← roots_data, ← first_data]; exact h
  have hR := Lib.tabIs_of_head gR gRT Tryd.underlying145 Tryd.underlying93 c44 c59 h1
  have hF : Lib.TabIs Tryd.prog W "carrack/sha.first" .u32 firstZ := by
    obtain ⟨ps, ⟨g', t', cs, fuel, p, q, hg', ht', hvar, hd, hrest, hps⟩, _⟩ := h1
    obtain ⟨g'', t'', cs', fuel', p', q', hg'', ht'', hvar', hd', _, _⟩ := hrest
    obtain rfl := Option.some.inj (gF.symm.trans hg'')
    obtain rfl := Option.some.inj (gFT.symm.trans ht'')
    unfold Lib.TabIs
    rw [hvar', ← Lib.cells_of_tab Tryd.underlying125 Tryd.underlying93 c44 c46 hd']
  have hr : RootsAt W := fun t ht => by
    have := hR.cell gR t (by rw [rootsZ, List.length_map, K_length]; exact ht)
    rw [this, rootsZ, List.getD_eq_getElem?_getD, List.getD_eq_getElem?_getD, List.getElem?_map]
    cases Sh.K[t]? <;> rfl
  have hf : FirstAt W := fun t ht => by
    have := hF.cell gF t (by rw [firstZ, List.length_map]; exact ht)
    rw [this, firstZ, List.getD_eq_getElem?_getD, List.getD_eq_getElem?_getD, List.getElem?_map]
    cases (toL Sh.H0)[t]? <;> rfl
  exact ⟨hr, hf, lt_of_cell (hr 0 (by decide)), lt_of_cell (hf 0 (by decide))⟩
/-- A world that meets the condition: the settled one, the two variables laid. -/
noncomputable def laidWorld (os : Os) : World :=
  let w0 := World.holding Tryd.prog os ⟨#[], #[], []⟩
  let put (h : Array Obj) (g : Nat) (cs : Array Value) : Array Obj := h.modify g fun
    | .cells _ t frozen => .cells cs t frozen
    | o => o
  let h1 := put w0.heap 1 (rootsZ.map fun z => Value.int .u32 z).toArray
  let h2 := put h1 0 (firstZ.map fun z => Value.int .u32 z).toArray
  { w0 with heap := h2 }
theorem laidWorld_met (os : Os) (args : Array Value) : laidMetH Tryd.prog bothLaid ((laidWorld os).forCall (fun _ _ => 0) ⟨#[], args, []⟩).memory := by
  have h : laidMet Tryd.prog bothLaid ((laidWorld os).forCall (fun _ _ => 0) ⟨#[], args, []⟩).memory := laidMet_of_run' 8 (by kernel_rfl) (by kernel_rfl)
  exact h
end Go.Proofs.YtcknhnbckbocjaaDoor
