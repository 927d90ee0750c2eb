/- Merged: ScF, ScFi. One field of an act: where it stands, and what a change of it leaves. The fields' closures. No condition. -/
import Derived.WalkSpells
import Derived.Test.YtjilbcefikbihaaScAQ
import Derived.Test.YtjilbcefikbihaaWrNewQ
namespace Go.Proofs.Ytjilbcefikbihaa
open Go.RowKit
set_option linter.unusedVariables false
@[go_sem] theorem run_store_funcS {P : Program} {w : World} {a : Addr} {m : Mode} (f : Fn) (c d : Array Value) : (store a (.func f c d) m).run P w = stored P w a (.func f c d) m := run_store P w a _ m rfl
structure LensI (i : Nat) (g : SaV → Int) (s : SaV → Int → SaV) : Prop where
  get : ∀ a sv tl, (SaV.cells a sv tl)[i]? = some (.int .i64 (g a))
  set : ∀ a x sv tl, (SaV.cells a sv tl).set i (.int .i64 x) = (s a x).cells sv tl
  ws : ∀ a x, (s a x).ws = a.ws
structure LensU (i : Nat) (g : SaV → Int) (s : SaV → Int → SaV) : Prop where
  get : ∀ a sv tl, (SaV.cells a sv tl)[i]? = some (.int .u64 (g a))
  set : ∀ a x sv tl, (SaV.cells a sv tl).set i (.int .u64 x) = (s a x).cells sv tl
  ws : ∀ a x, (s a x).ws = a.ws
structure LensT (i : Nat) (g : SaV → ByteArray) (s : SaV → ByteArray → SaV) : Prop where
  get : ∀ a sv tl, (SaV.cells a sv tl)[i]? = some (.string (g a))
  set : ∀ a x sv tl, (SaV.cells a sv tl).set i (.string x) = (s a x).cells sv tl
  ws : ∀ a x, (s a x).ws = a.ws
theorem ActAt.set {w : World} {A i : Nat} {a a' : SaV} {sv x : Value} {T : TypeId} {tl : List Value} (h : ActAt w A a sv T tl) (hc : (a.cells sv tl).set i x = a'.cells sv tl) (hw : a'.ws = a.ws) : ActAt (w.setCell ⟨A, i, none⟩ x) A a' sv T tl := by
  refine ⟨?_, ?_, h.ne, fun b hb => by have := h.sl b hb; simpa [World.setCell] using this⟩
  · rw [Kq.blk_set h.blk i x, ← hc]
    congr 2
    exact Array.ext' (by rw [Array.toList_setIfInBounds])
  · rw [hw]
    exact h.ws.keeps (S := (· = A)) (Kq.Keeps.setCell _ _ _ rfl) (fun b hb e => h.ne (by rw [hb, e]))
theorem read_set {w w3 : World} {base B A i : Nat} {a a' : SaV} {sv x : Value} {T : TypeId} {tl : List Value} {e' : Int} {s' : ByteArray} (hR : Rd w3 B e' s') (hA : ActAt w3 A a sv T tl) (hK : Kq.Keeps (· = B) w w3) (hO : w.ownsRow base 87 2 sv a.ws.length (wcells a.ws))
    (hAB : A ≠ B) (hsB : sv.ownBlock ≠ some B) (hc : (a.cells sv tl).set i x = a'.cells sv tl) (hw : a'.ws = a.ws) :
    ReadPost w base B A sv T tl (a', e', s') (.returned (.tuple #[])) (w3.setCell ⟨A, i, none⟩ x) := by
  have kA : Kq.Keeps (· = A) w3 (w3.setCell ⟨A, i, none⟩ x) := Kq.Keeps.setCell _ _ _ rfl
  refine ⟨rfl, kA.blk hR (fun h => hAB h.symm), sv, hA.set hc hw, ?_, ?_, fun k hk => Or.inl hk.symm⟩
  · show World.ownsRow _ _ _ _ _ a'.ws.length (wcells a'.ws)
    rw [hw]
    have hO3 := own_later hO (fun k hk => hK.block k (hO.lt k hk).2 (fun e => hsB (by rw [hk, e])))
    refine own_later hO3 (fun k hk => ?_)
    exact kA.block k (Nat.lt_of_lt_of_le (hO.lt k hk).2 hK.size) (own_ne_act hA hO3 hk)
  · exact (hK.mono (fun k _ hk => Or.inl hk)).trans (kA.mono (fun k _ hk => Or.inr (Or.inl hk)))
theorem wr_num_step (base B : Nat) (e : Int) (v : Value) (l : List Nat) (n : Int) (w : World) (h : Wr w base B e v l) (hn : 0 ≤ n ∧ n < 18446744073709551616) (hl : l.length + 8 ≤ 1000000) :
    Calls Try.prog 29 #[.pointer (some ⟨B, 0, none⟩), .int .u64 n] w (WrStep w base B v e l True (num8 n.toNat) 8) := by
  obtain ⟨m, rfl⟩ := Int.eq_ofNat_of_zero_le hn.1
  refine (wr_number base B e v l m w h (by unfold M64; omega) (by omega)).mono fun x w' hp => ?_
  exact ⟨e, l ++ num8 m, hp, by simp [num8], fun _ => ⟨rfl, rfl⟩, fun h => absurd trivial h⟩
theorem wr_text_step (base B : Nat) (e : Int) (v : Value) (l : List Nat) (s : ByteArray) (w : World) (h : Wr w base B e v l) (hl : l.length + 65537 ≤ 1000000) :
    Calls Try.prog 69 #[.pointer (some ⟨B, 0, none⟩), .string s] w (WrStep w base B v e l (s.size ≤ 65535) (hi2 s.size ++ nl s) 65537) := by
  by_cases hs : s.size ≤ 65535
  · refine (wr_text_ok base B e v l s w h hs (by omega)).mono fun x w' hp => ?_
    exact ⟨e, l ++ hi2 s.size ++ nl s, hp, by simp [hi2, nl_length]; omega, fun _ => ⟨rfl, by rw [List.append_assoc]⟩, fun h => absurd hs h⟩
  · refine (wr_text_bad base B e v l s w h (by omega)).mono fun x w' hp => ?_
    exact ⟨_, l, hp, by omega, fun h => absurd h hs, fun _ => rfl⟩
end Go.Proofs.Ytjilbcefikbihaa
namespace Go.Proofs.Ytjilbcefikbihaa
open Go.RowKit
set_option linter.unusedVariables false
theorem fiC : FieldIs (.func (.func 42) #[] #[]) 1 := ⟨_, ⟨rfl, enter_fnS Try.func42 (by kernel_rfl) rfl⟩, fun A w => by
  go_enter Try.func42, Try.ntmps42
  go_wp2
  go_ret
  exact ⟨rfl, rfl⟩⟩
theorem leC : LensI 1 SaV.c (fun a x => { a with c := x }) := ⟨fun _ _ _ => rfl, fun _ _ _ _ => rfl, fun _ _ => rfl⟩
theorem fiN : FieldIs (.func (.func 43) #[] #[]) 4 := ⟨_, ⟨rfl, enter_fnS Try.func43 (by kernel_rfl) rfl⟩, fun A w => by
  go_enter Try.func43, Try.ntmps43
  go_wp2
  go_ret
  exact ⟨rfl, rfl⟩⟩
theorem leN : LensI 4 SaV.n (fun a x => { a with n := x }) := ⟨fun _ _ _ => rfl, fun _ _ _ _ => rfl, fun _ _ => rfl⟩
theorem fiT : FieldIs (.func (.func 46) #[] #[]) 2 := ⟨_, ⟨rfl, enter_fnS Try.func46 (by kernel_rfl) rfl⟩, fun A w => by
  go_enter Try.func46, Try.ntmps46
  go_wp2
  go_ret
  exact ⟨rfl, rfl⟩⟩
theorem leT : LensU 2 SaV.t (fun a x => { a with t := x }) := ⟨fun _ _ _ => rfl, fun _ _ _ _ => rfl, fun _ _ => rfl⟩
theorem fiD : FieldIs (.func (.func 48) #[] #[]) 3 := ⟨_, ⟨rfl, enter_fnS Try.func48 (by kernel_rfl) rfl⟩, fun A w => by
  go_enter Try.func48, Try.ntmps48
  go_wp2
  go_ret
  exact ⟨rfl, rfl⟩⟩
theorem leD : LensT 3 SaV.d (fun a x => { a with d := x }) := ⟨fun _ _ _ => rfl, fun _ _ _ _ => rfl, fun _ _ => rfl⟩
theorem fiMk : FieldIs (.func (.func 73) #[] #[]) 5 := ⟨_, ⟨rfl, enter_fnS Try.func73 (by kernel_rfl) rfl⟩, fun A w => by
  go_enter Try.func73, Try.ntmps73
  go_wp2
  go_ret
  exact ⟨rfl, rfl⟩⟩
theorem leMk : LensI 5 SaV.mk (fun a x => { a with mk := x }) := ⟨fun _ _ _ => rfl, fun _ _ _ _ => rfl, fun _ _ => rfl⟩
theorem fiMt : FieldIs (.func (.func 74) #[] #[]) 6 := ⟨_, ⟨rfl, enter_fnS Try.func74 (by kernel_rfl) rfl⟩, fun A w => by
  go_enter Try.func74, Try.ntmps74
  go_wp2
  go_ret
  exact ⟨rfl, rfl⟩⟩
theorem leMt : LensI 6 SaV.mt (fun a x => { a with mt := x }) := ⟨fun _ _ _ => rfl, fun _ _ _ _ => rfl, fun _ _ => rfl⟩
theorem fiMh : FieldIs (.func (.func 75) #[] #[]) 7 := ⟨_, ⟨rfl, enter_fnS Try.func75 (by kernel_rfl) rfl⟩, fun A w => by
  go_enter Try.func75, Try.ntmps75
  go_wp2
  go_ret
  exact ⟨rfl, rfl⟩⟩
theorem leMh : LensU 7 SaV.mh (fun a x => { a with mh := x }) := ⟨fun _ _ _ => rfl, fun _ _ _ _ => rfl, fun _ _ => rfl⟩
theorem fiPf : FieldIs (.func (.func 76) #[] #[]) 8 := ⟨_, ⟨rfl, enter_fnS Try.func76 (by kernel_rfl) rfl⟩, fun A w => by
  go_enter Try.func76, Try.ntmps76
  go_wp2
  go_ret
  exact ⟨rfl, rfl⟩⟩
theorem lePf : LensI 8 SaV.pf (fun a x => { a with pf := x }) := ⟨fun _ _ _ => rfl, fun _ _ _ _ => rfl, fun _ _ => rfl⟩
theorem fiPq : FieldIs (.func (.func 77) #[] #[]) 9 := ⟨_, ⟨rfl, enter_fnS Try.func77 (by kernel_rfl) rfl⟩, fun A w => by
  go_enter Try.func77, Try.ntmps77
  go_wp2
  go_ret
  exact ⟨rfl, rfl⟩⟩
theorem lePq : LensU 9 SaV.pq (fun a x => { a with pq := x }) := ⟨fun _ _ _ => rfl, fun _ _ _ _ => rfl, fun _ _ => rfl⟩
theorem fiPt : FieldIs (.func (.func 78) #[] #[]) 10 := ⟨_, ⟨rfl, enter_fnS Try.func78 (by kernel_rfl) rfl⟩, fun A w => by
  go_enter Try.func78, Try.ntmps78
  go_wp2
  go_ret
  exact ⟨rfl, rfl⟩⟩
theorem lePt : LensU 10 SaV.pt (fun a x => { a with pt := x }) := ⟨fun _ _ _ => rfl, fun _ _ _ _ => rfl, fun _ _ => rfl⟩
theorem fiPd : FieldIs (.func (.func 79) #[] #[]) 11 := ⟨_, ⟨rfl, enter_fnS Try.func79 (by kernel_rfl) rfl⟩, fun A w => by
  go_enter Try.func79, Try.ntmps79
  go_wp2
  go_ret
  exact ⟨rfl, rfl⟩⟩
theorem lePd : LensT 11 SaV.pd (fun a x => { a with pd := x }) := ⟨fun _ _ _ => rfl, fun _ _ _ _ => rfl, fun _ _ => rfl⟩
theorem fiMp : FieldIs (.func (.func 80) #[] #[]) 12 := ⟨_, ⟨rfl, enter_fnS Try.func80 (by kernel_rfl) rfl⟩, fun A w => by
  go_enter Try.func80, Try.ntmps80
  go_wp2
  go_ret
  exact ⟨rfl, rfl⟩⟩
theorem leMp : LensT 12 SaV.mp (fun a x => { a with mp := x }) := ⟨fun _ _ _ => rfl, fun _ _ _ _ => rfl, fun _ _ => rfl⟩
end Go.Proofs.Ytjilbcefikbihaa
