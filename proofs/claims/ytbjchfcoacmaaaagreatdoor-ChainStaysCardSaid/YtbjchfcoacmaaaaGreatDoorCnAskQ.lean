/- Closures that ask: chain's first, unless. Condition: what is asked tells so, wherever it is asked. -/
import Derived.WalkSpells
import Derived.Outline
import Derived.ProofKit
import Derived.Test.YtbjchfcoacmaaaaGreatDoorChecked
import Derived.Test.YtbjchfcoacmaaaaGreatDoorObjQ
import Derived.Test.YtbjchfcoacmaaaaGreatDoorCommonQ
namespace Go.Proofs.YtbjchfcoacmaaaaGreatDoor
open Go.RowKit
set_option linter.unusedVariables false
theorem enter_fn {f : FuncId} {fn : Func} {c : Code} (hf : Tryz.prog.funcs[f]? = some fn) (hname : (fn.name == "runtime.NumGoroutine") = false) (hb : fn.body = some c) (args : Array Value) (w : World) : (callFunc f args).run Tryz.prog w = .ok (.enter f args) w := by
  have h1 : ¬ fn.name = "runtime.NumGoroutine" := by simpa using hname
  simp [callFunc, hf, h1, hb]
/-- a function without arguments that tells u, in any world that has grown from w -/
def Tells (w : World) (f u : Value) : Prop := ∃ n c0 c1, f = .func (.func n) c0 c1 ∧ (∀ args w, (callFunc n args).run Tryz.prog w = .ok (.enter n args) w) ∧ ∀ w', Below w.heap.size w w' → Calls Tryz.prog n (c0 ++ c1) w' fun x w'' => x = .returned u ∧ Below w'.heap.size w' w''
theorem Tells.mono {w w' : World} {f u : Value} (h : Tells w f u) (hb : Below w.heap.size w w') : Tells w' f u := by
  obtain ⟨n, c0, c1, e, hr, hc⟩ := h
  exact ⟨n, c0, c1, e, hr, fun w2 hb2 => hc w2 (hb.trans (hb2.mono hb.size))⟩
theorem Tells.of {w w0 : World} {f u : Value} (h : Tells w0 f u) (hb : Below w0.heap.size w0 w) : Tells w f u := h.mono hb
/-- the first error -/
def firstE : List Int → Int
  | [] => 0
  | e :: l => if e = 0 then firstE l else e
theorem firstE_front : ∀ (l : List Int) (j : Nat) (h : j < l.length), (∀ i (hi : i < l.length), i < j → l[i] = 0) → l[j] ≠ 0 → firstE l = l[j]
  | e :: l, 0, h, _, hne => if_neg hne
  | e :: l, j + 1, h, h0, hne => by
    have he : e = 0 := h0 0 (by simp) (by omega)
    show (if e = 0 then firstE l else e) = _
    rw [if_pos he]
    exact firstE_front l j (Nat.lt_of_succ_lt_succ h) (fun i hi hij => h0 (i + 1) (Nat.succ_lt_succ hi) (Nat.succ_lt_succ hij)) hne
theorem firstE_all : ∀ (l : List Int), (∀ i (hi : i < l.length), l[i] = 0) → firstE l = 0
  | [], _ => rfl
  | e :: l, h => by
    have he : e = 0 := h 0 (by simp)
    show (if e = 0 then firstE l else e) = _
    rw [if_pos he]
    exact firstE_all l (fun i hi => h (i + 1) (Nat.succ_lt_succ hi))
/-- functions in memory -/
def FsAt (w : World) (g o : Nat) (fs : List Value) : Prop := g < w.heap.size ∧ ∀ j (h : j < fs.length), w.cell? ⟨g, o + j, none⟩ = some fs[j]
theorem FsAt.below {w w' : World} {g o : Nat} {fs : List Value} (h : FsAt w g o fs) (hb : Below w.heap.size w w') : FsAt w' g o fs := ⟨Nat.lt_of_lt_of_le h.1 hb.size, fun j hj => (hb.cell (p := ⟨g, o + j, none⟩) h.1).trans (h.2 j hj)⟩
/-- what is asked, one behind the other -/
def AskL (w : World) (fs : List Value) (es : List Int) : Prop := fs.length = es.length ∧ ∀ j (h1 : j < fs.length) (h2 : j < es.length), (∀ i (hi : i < es.length), i < j → es[i] = 0) → Tells w fs[j] (.int .i64 es[j])
theorem AskL.mono {w w' : World} {fs : List Value} {es : List Int} (h : AskL w fs es) (hb : Below w.heap.size w w') : AskL w' fs es := ⟨h.1, fun j h1 h2 h3 => (h.2 j h1 h2 h3).mono hb⟩
set_option maxRecDepth 100000 in
set_option maxHeartbeats 2000000 in
theorem cn_first (g o cap : Nat) (fs : List Value) (es : List Int) (w : World) (hF : FsAt w g o fs) (hA : AskL w fs es) (hl : fs.length ≤ 1000) :
    Calls Tryz.prog 59 #[.slice (some ⟨g, o, none⟩) fs.length cap] w fun x w' => x = .returned (.int .i64 (firstE es)) ∧ Below w.heap.size w w' := by
  have HF := Lib.hid (And.intro hF hA)
  have HL := Lib.hid hl
  clear hF hA hl
  go_enter Tryz.func59, Tryz.ntmps59
  go_wp2
  go_loopw [8] (fun u wr => ∃ j : Nat, j ≤ fs.length ∧ u = .int .i64 (j : Int) ∧ (∀ i (hi : i < es.length), i < j → es[i] = 0) ∧ Below w.heap.size w wr) (fun u _ => fs.length - (intOf u).toNat)
  case atStart => exact ⟨0, Nat.zero_le _, rfl, fun i _ h => absurd h (Nat.not_lt_zero _), Below.refl _ _⟩
  case round =>
    obtain ⟨j, hj, rfl, hall, hbl⟩ := hrel
    have hj6 : j ≤ 1000 := by have := HL.out; omega
    by_cases hlt : j < fs.length
    · have hle : j < es.length := by rw [← HF.out.2.1]; exact hlt
      obtain ⟨f, hf⟩ : ∃ f, f = fs[j] := ⟨_, rfl⟩
      obtain ⟨e, he⟩ : ∃ e, e = es[j] := ⟨_, rfl⟩
      have c0 := (HF.out.1.below hbl).2 j hlt
      have ht := HF.out.2.2 j hlt hle hall
      rw [← hf] at c0 ht
      rw [← he] at ht
      have HE : Hid (∀ h : j < es.length, es[j]'h = e) := Lib.hid (fun _ => he.symm)
      obtain ⟨n, k0, k1, rfl, hrun, hcall⟩ := ht
      have HALL := Lib.hid hall
      have HB := Lib.hid hbl
      have HC := Lib.hid hcall
      have t1 : decide ((j : Int) < (fs.length : Int)) = true := decide_eq_true (by omega)
      have t2 : decide (j < fs.length) = true := decide_eq_true hlt
      have hi0 : (j : Int) < (fs.length : Int) := by omega
      have HLT := Lib.hid (And.intro hlt hle)
      clear hf he hall hbl hcall hlt hle hj
      go_wp2_with fail
      refine (HC.out wr HB.out).mono ?_
      rintro x w2 ⟨rfl, b2⟩
      have H2 := Lib.hid (HB.out.trans (b2.mono HB.out.size))
      clear b2 hrun c0
      by_cases e0 : e = 0
      · have e1 : (e != 0) = false := by rw [e0]; rfl
        have HE0 := Lib.hid e0
        clear e0
        go_wp2
        go_roundw
        case rel =>
          refine ⟨j + 1, HLT.out.1, by go_num, fun i hi hij => ?_, H2.out⟩
          rcases Nat.lt_or_ge i j with h' | h'
          · exact HALL.out i hi h'
          · obtain rfl : i = j := by omega
            rw [HE.out hi]; exact HE0.out
        case measure => have := HLT.out; simp [intOf]; omega
      · have e1 : (e != 0) = true := by rw [bne_iff_ne]; exact e0
        have HFE : Hid (firstE es = e) := Lib.hid (by
          rw [firstE_front es j HLT.out.2 HALL.out (by rw [HE.out HLT.out.2]; exact e0), HE.out HLT.out.2])
        clear e0
        go_wp2
        go_ret
        exact ⟨by rw [HFE.out]; rfl, H2.out⟩
    · obtain rfl : j = fs.length := by omega
      have t1 : decide ((fs.length : Int) < (fs.length : Int)) = false := decide_eq_false (by omega)
      have t2 : decide (fs.length < fs.length) = false := decide_eq_false hlt
      have HFE : Hid (firstE es = 0) := Lib.hid (firstE_all es (fun i hi => hall i hi (by rw [HF.out.2.1]; exact hi)))
      have HB := Lib.hid hbl
      clear hlt hall hbl hj
      go_wp2
      go_ret
      exact ⟨by rw [HFE.out]; rfl, HB.out⟩
/-- a box -/
theorem box_below {w w' : World} {X : Nat} {v : Value} (h : w.cell? ⟨X, 0, none⟩ = some v) (hX : X < w.heap.size) (hb : Below w.heap.size w w') : w'.cell? ⟨X, 0, none⟩ = some v := (hb.cell (p := ⟨X, 0, none⟩) hX).trans h
set_option maxRecDepth 100000 in
set_option maxHeartbeats 1000000 in
theorem cn_unless1 (X1 X2 : Nat) (f : Value) (b : Bool) (e : Int) (w : World) (h1 : w.cell? ⟨X1, 0, none⟩ = some f) (h2 : w.cell? ⟨X2, 0, none⟩ = some (.int .i64 e)) (l2 : X2 < w.heap.size) (hf : Tells w f (.bool b)) :
    Calls Tryz.prog 104 #[.pointer (some ⟨X1, 0, none⟩), .pointer (some ⟨X2, 0, none⟩)] w fun x w' => x = .returned (.int .i64 (if b then 0 else e)) ∧ Below w.heap.size w w' := by
  obtain ⟨n, k0, k1, rfl, hrun, hcall⟩ := hf
  have HC := Lib.hid hcall
  have H2 := Lib.hid (And.intro h2 l2)
  clear hcall h2 l2
  go_enter Tryz.func104, Tryz.ntmps104
  go_wp2_with fail
  refine (HC.out w (Below.refl _ _)).mono ?_
  rintro x w2 ⟨rfl, b2⟩
  have c2 := box_below H2.out.1 H2.out.2 b2
  have HB := Lib.hid b2
  clear b2 h1 hrun
  cases b with
  | true =>
    go_wp2
    go_ret
    exact ⟨rfl, HB.out⟩
  | false =>
    go_wp2
    go_ret
    exact ⟨rfl, HB.out⟩
set_option maxRecDepth 100000 in
theorem cn_unlessX (f : Value) (e : Int) (w : World) (hv : ∃ n c0 c1, f = .func (.func n) c0 c1) :
    Calls Tryz.prog 61 #[.int .i64 e, f] w fun x w' => ∃ v, x = .returned v ∧ (∀ b, Tells w f (.bool b) → Tells w' v (.int .i64 (if b then 0 else e))) ∧ (∃ n c0 c1, v = .func (.func n) c0 c1) ∧ Below w.heap.size w w' := by
  obtain ⟨n, c0, c1, rfl⟩ := hv
  have hb1 := Kq.below_alloc w (.cells #[.int .i64 e] 25)
  have hr1 := Kq.blk_new w #[.int .i64 e] 25 (0, 0)
  have hb2 := Kq.below_alloc (w.alloc (.cells #[.int .i64 e] 25)) (.cells #[.func (.func n) c0 c1] 23)
  have hr2 := Kq.blk_new (w.alloc (.cells #[.int .i64 e] 25)) #[.func (.func n) c0 c1] 23 (0, 0)
  rw [World.size_alloc] at hr2
  have hr1' := Kq.below_blk hb2 hr1 (Kq.blk_lt hr1)
  have hbb := hb1.trans (hb2.mono hb1.size)
  have HT : Hid ((∀ b, Tells w (.func (.func n) c0 c1) (.bool b) → Tells ((w.alloc (.cells #[.int .i64 e] 25)).alloc (.cells #[.func (.func n) c0 c1] 23)) (.func (.func 104) #[] #[.pointer (some ⟨w.heap.size + 1, 0, none⟩), .pointer (some ⟨w.heap.size, 0, none⟩)]) (.int .i64 (if b then 0 else e))) ∧ Below w.heap.size w ((w.alloc (.cells #[.int .i64 e] 25)).alloc (.cells #[.func (.func n) c0 c1] 23))) := Lib.hid ⟨fun b hf => ⟨_, _, _, rfl, enter_fn Tryz.func104 (by kernel_rfl) rfl, fun w' hb => by
    have g1 := Kq.below_blk hb hr1' (Kq.blk_lt hr1')
    have g2 := Kq.below_blk hb hr2 (Kq.blk_lt hr2)
    exact cn_unless1 (w.heap.size + 1) w.heap.size (.func (.func n) c0 c1) b e w' (Kq.blk_cell g2 0) (Kq.blk_cell g1 0) (Kq.blk_lt g1) ((hf.mono hbb).mono hb)⟩, hbb⟩
  clear hb1 hr1 hb2 hr2 hr1' hbb
  go_enter Tryz.func61, Tryz.ntmps61
  go_wp2
  go_ret
  exact ⟨.func (.func 104) #[] #[.pointer (some ⟨w.heap.size + 1, 0, none⟩), .pointer (some ⟨w.heap.size, 0, none⟩)], rfl, HT.out.1, ⟨_, _, _, rfl⟩, HT.out.2⟩
theorem cn_unless (f : Value) (b : Bool) (e : Int) (w : World) (hf : Tells w f (.bool b)) (hv : ∃ n c0 c1, f = .func (.func n) c0 c1) :
    Calls Tryz.prog 61 #[.int .i64 e, f] w fun x w' => ∃ v, x = .returned v ∧ Tells w' v (.int .i64 (if b then 0 else e)) ∧ Below w.heap.size w w' :=
  (cn_unlessX f e w hv).mono fun x w' h => by
    obtain ⟨v, h1, h2, -, h3⟩ := h
    exact ⟨v, h1, h2 b hf, h3⟩
theorem AskL.nil (w : World) : AskL w [] [] := ⟨rfl, fun j h => by cases h⟩
theorem AskL.cons {w : World} {f : Value} {e : Int} {fs : List Value} {es : List Int} (h1 : Tells w f (.int .i64 e)) (h2 : e = 0 → fs.length = es.length → AskL w fs es) (hl : fs.length = es.length) : AskL w (f :: fs) (e :: es) :=
  ⟨by simp [hl], fun j hj1 hj2 h3 => by
    match j with
    | 0 => exact h1
    | j + 1 =>
      have h0 : e = 0 := h3 0 (by simp) (by omega)
      exact (h2 h0 hl).2 j (Nat.lt_of_succ_lt_succ hj1) (Nat.lt_of_succ_lt_succ hj2) (fun i hi hij => h3 (i + 1) (Nat.succ_lt_succ hi) (by omega))⟩
theorem firstE_zero : ∀ (l : List Int), firstE l = 0 → ∀ e ∈ l, e = 0
  | [], _, e, he => by cases he
  | x :: l, h, e, he => by
    unfold firstE at h
    by_cases hx : x = 0
    · rw [if_pos hx] at h
      rcases List.mem_cons.1 he with rfl | he
      · exact hx
      · exact firstE_zero l h e he
    · rw [if_neg hx] at h
      exact absurd h hx
/-- functions just made -/
theorem FsAt.new (w : World) (fs : List Value) (T : TypeId) : FsAt (w.alloc (.cells fs.toArray T)) w.heap.size 0 fs := ⟨by simp, fun j hj => by
  have h := Kq.blk_cell (Kq.blk_new w fs.toArray T (0, 0)) j
  rw [Nat.zero_add, h]
  simp [hj]⟩
end Go.Proofs.YtbjchfcoacmaaaaGreatDoor
