/- Forms in memory: what their closures do. -/
import Derived.WalkSpells
import Derived.Outline
import Derived.Test.YtjilbcefikbihaaScMQ
import Derived.Test.YtjilbcefikbihaaWrLQ
import Derived.Test.YtjilbcefikbihaaWireRd2Q
import Derived.Test.YtjilbcefikbihaaCommonQ
namespace Go.Proofs.Ytjilbcefikbihaa
open Go.RowKit
set_option linter.unusedVariables false
theorem enter_fnS {f : FuncId} {fn : Func} {c : Code} (hf : Try.prog.funcs[f]? = some fn) (hname : (fn.name == "runtime.NumGoroutine") = false) (hb : fn.body = some c) (args : Array Value) (w : World) : (callFunc f args).run Try.prog w = .ok (.enter f args) w := by
  have h1 : ¬ fn.name = "runtime.NumGoroutine" := by simpa using hname
  simp [callFunc, hf, h1, hb]
def wcells (l : List (Bool × Int)) : List Value := l.flatMap fun x => [.bool x.1, .int .i64 x.2]
/-- the writes that a slice has -/
def WsAt (w : World) (sv : Value) (l : List (Bool × Int)) : Prop :=
  ∃ A cap, sv = .slice A l.length cap ∧ ∀ j (h : j < l.length), ∃ b o, A = some ⟨b, o, none⟩ ∧ b < w.heap.size ∧ w.cell? ⟨b, o + j * 2, none⟩ = some (.bool l[j].1) ∧ w.cell? ⟨b, o + j * 2 + 1, none⟩ = some (.int .i64 l[j].2)
def sBlk : Value → Option Nat
  | .slice (some a) n c => if n = 0 ∧ c = 0 then none else some a.block
  | _ => none
theorem sBlk_pos {a : Addr} {n c : Nat} (h : 0 < n) : sBlk (.slice (some a) n c) = some a.block := if_neg (by omega)
theorem own_sB {v : Value} {b : Nat} (h : sBlk v = some b) : v.ownBlock = some b := by
  unfold sBlk at h
  split at h
  · split at h
    · cases h
    · exact h
  · cases h
theorem WsAt.keeps {w w' : World} {sv : Value} {l : List (Bool × Int)} {S : Nat → Prop} (h : WsAt w sv l) (hk : Kq.Keeps S w w') (hS : ∀ b, sBlk sv = some b → ¬ S b) : WsAt w' sv l := by
  obtain ⟨A, cap, rfl, h⟩ := h
  refine ⟨A, cap, rfl, fun j hj => ?_⟩
  obtain ⟨b, o, rfl, h1, h2, h3⟩ := h j hj
  have hn := hS b (sBlk_pos (by omega))
  have hc : ∀ i, w'.cell? ⟨b, i, none⟩ = w.cell? ⟨b, i, none⟩ := fun i => by unfold World.cell?; rw [hk.block b h1 hn]
  exact ⟨b, o, rfl, Nat.lt_of_lt_of_le h1 hk.size, (hc _).trans h2, (hc _).trans h3⟩
/-- an act in block A -/
structure ActAt (w : World) (A : Nat) (a : SaV) (sv : Value) (T : TypeId) (tl : List Value) : Prop where
  blk : w.heap[A]? = some (.cells ⟨a.cells sv tl⟩ T (0, 0))
  ws : WsAt w sv a.ws
  ne : sBlk sv ≠ some A
  sl : ∀ b, sBlk sv = some b → b < w.heap.size
theorem ActAt.keeps {w w' : World} {A : Nat} {a : SaV} {sv : Value} {T : TypeId} {tl : List Value} {S : Nat → Prop} (h : ActAt w A a sv T tl) (hk : Kq.Keeps S w w') (hA : ¬ S A) (hS : ∀ b, sBlk sv = some b → ¬ S b) : ActAt w' A a sv T tl :=
  ⟨hk.blk h.blk hA, h.ws.keeps hk hS, h.ne, fun b hb => Nat.lt_of_lt_of_le (h.sl b hb) hk.size⟩
theorem own_ne_act {w : World} {A : Nat} {a : SaV} {sv : Value} {T : TypeId} {tl : List Value} {base : Nat} {t : TypeId} {size n : Nat} {xs : List Value} (hA : ActAt w A a sv T tl) (hO : w.ownsRow base t size sv n xs) {k : Nat} (hk : sv.ownBlock = some k) : k ≠ A := by
  rcases hO.2 with ⟨rfl, _⟩ | ⟨g, cap, cur, rfl, _, hg, _, _, hsz, _⟩
  · cases hk
  · have e : g = k := by injection hk
    subst e
    by_cases hc : n = 0 ∧ cap = 0
    · rintro rfl
      have h1 := hA.blk
      rw [hg] at h1
      injection h1 with h1
      injection h1 with h1 _ _
      rw [h1, hc.2, Nat.zero_mul] at hsz
      have h2 : (a.cells (.slice (some ⟨g, 0, none⟩) n cap) tl).length = 0 := hsz
      simp [SaV.cells] at h2
    · intro e
      exact hA.ne (by show (if n = 0 ∧ cap = 0 then none else some g) = some A; rw [if_neg hc, e])
theorem ActAt.lt {w : World} {A : Nat} {a : SaV} {sv : Value} {T : TypeId} {tl : List Value} (h : ActAt w A a sv T tl) : A < w.heap.size := Kq.blk_lt h.blk
/-- a function as a value: how it is called -/
def Fun2 (f : Value) (n : FuncId) (c1 : Array Value) : Prop := f = .func (.func n) #[] c1 ∧ ∀ args w, (callFunc n args).run Try.prog w = .ok (.enter n args) w
/-- the blocks from lo to hi are as they were -/
def Rng (lo hi : Nat) (w w1 : World) : Prop := ∀ k, lo ≤ k → k < hi → w1.heap[k]? = w.heap[k]?
theorem Rng.keeps {lo hi : Nat} {w w1 w2 : World} {S : Nat → Prop} (h : Rng lo hi w w1) (hk : Kq.Keeps S w1 w2) (hS : ∀ k, S k → hi ≤ k) (hs : hi ≤ w1.heap.size) : Rng lo hi w w2 :=
  fun k h1 h2 => (hk.block k (Nat.lt_of_lt_of_le h2 hs) (fun e => by have := hS k e; omega)).trans (h k h1 h2)
theorem Rng.below {lo hi : Nat} {w w1 w2 : World} (h : Rng lo hi w w1) (hb : Below w1.heap.size w1 w2) (hs : hi ≤ w1.heap.size) : Rng lo hi w w2 :=
  fun k h1 h2 => (hb.block k (Nat.lt_of_lt_of_le h2 hs)).trans (h k h1 h2)
theorem Rng.refl (lo hi : Nat) (w : World) : Rng lo hi w w := fun _ _ _ => rfl
theorem Rng.trans {lo hi : Nat} {w w1 w2 : World} (h : Rng lo hi w w1) (h2 : Rng lo hi w1 w2) : Rng lo hi w w2 := fun k a b => (h2 k a b).trans (h k a b)
theorem Rng.narrow {lo hi lo' hi' : Nat} {w w1 : World} (h : Rng lo' hi' w w1) (h1 : lo' ≤ lo) (h2 : hi ≤ hi') : Rng lo hi w w1 := fun k a b => h k (Nat.le_trans h1 a) (Nat.lt_of_lt_of_le b h2)
/-- writes -/
def FnW (lo hi : Nat) (w : World) (f : Value) (F : FmV) : Prop := ∃ n c1, Fun2 f n c1 ∧ ∀ w1, Rng lo hi w w1 → ∀ base B e v l A a sv T tl, Wr w1 base B e v l → hi ≤ base → hi ≤ B → ActAt w1 A a sv T tl → a.wf → A ≠ B → (∀ k, v.ownBlock = some k → k ≠ A ∧ sBlk sv ≠ some k) → sBlk sv ≠ some B → l.length + F.cap ≤ 1000000 →
  Calls Try.prog n (#[.pointer (some ⟨B, 0, none⟩), .pointer (some ⟨A, 0, none⟩)] ++ c1) w1 (WrStep w1 base B v e l (F.ok a) (F.enc a) F.cap)
/-- reads -/
def ReadPost (w : World) (base B A : Nat) (sv : Value) (T : TypeId) (tl : List Value) (y : SaV × Int × ByteArray) (x : Ending) (w' : World) : Prop :=
  x = .returned (.tuple #[]) ∧ Rd w' B y.2.1 y.2.2 ∧ ∃ sv', ActAt w' A y.1 sv' T tl ∧ w'.ownsRow base 87 2 sv' y.1.ws.length (wcells y.1.ws) ∧
    Kq.Keeps (fun k => k = B ∨ k = A ∨ some k = sv.ownBlock) w w' ∧ (∀ k, sv'.ownBlock = some k → some k = sv.ownBlock ∨ w.heap.size ≤ k)
def FnR (lo hi : Nat) (w : World) (f : Value) (F : FmV) : Prop := ∃ n c1, Fun2 f n c1 ∧ ∀ w1, Rng lo hi w w1 → ∀ base B e s A a sv T tl, Rd w1 B e s → hi ≤ base → base ≤ w1.heap.size → hi ≤ B → hi ≤ A → ActAt w1 A a sv T tl → w1.ownsRow base 87 2 sv a.ws.length (wcells a.ws) → A ≠ B → sv.ownBlock ≠ some B → s.size ≤ 100000000 → a.ws.length ≤ 1000 →
  Calls Try.prog n (#[.pointer (some ⟨B, 0, none⟩), .pointer (some ⟨A, 0, none⟩)] ++ c1) w1 (ReadPost w1 base B A sv T tl (F.get a e s))
/-- keeps -/
def FnK (lo hi : Nat) (w : World) (f : Value) (F : FmV) : Prop := ∃ n c1, Fun2 f n c1 ∧ ∀ w1, Rng lo hi w w1 → ∀ A a sv T tl B b sv2 T2 tl2, ActAt w1 A a sv T tl → ActAt w1 B b sv2 T2 tl2 → hi ≤ B → A ≠ B → sBlk sv ≠ some B →
  Calls Try.prog n (#[.pointer (some ⟨A, 0, none⟩), .pointer (some ⟨B, 0, none⟩)] ++ c1) w1 fun x w' => x = .returned (.tuple #[]) ∧ Kq.Keeps (· = B) w1 w' ∧ ∃ sv3, ActAt w' B (F.keep a b) sv3 T2 tl2 ∧ (sv3 = sv ∨ sv3 = sv2)
/-- a form in memory: what it needs lies from lo to hi -/
def FormIs (lo hi : Nat) (w : World) (v : Value) (F : FmV) : Prop := hi ≤ w.heap.size ∧ ∃ f1 f2 f3, v = .agg #[f1, f2, f3] ∧ FnW lo hi w f1 F ∧ FnR lo hi w f2 F ∧ FnK lo hi w f3 F
theorem FormIs.mono {lo hi lo' hi' : Nat} {w w' : World} {v : Value} {F : FmV} (h : FormIs lo hi w v F) (hr : Rng lo hi w w') (h1 : lo' ≤ lo) (h2 : hi ≤ hi') (h3 : hi' ≤ w'.heap.size) : FormIs lo' hi' w' v F := by
  obtain ⟨_, f1, f2, f3, hv, ⟨n1, c1, e1, a1⟩, ⟨n2, c2, e2, a2⟩, ⟨n3, c3, e3, a3⟩⟩ := h
  refine ⟨h3, f1, f2, f3, hv, ⟨n1, c1, e1, ?_⟩, ⟨n2, c2, e2, ?_⟩, ⟨n3, c3, e3, ?_⟩⟩
  · intro w1 hb base B e v l A a sv T tl g1 g2 g3
    exact a1 w1 (hr.trans (hb.narrow h1 h2)) base B e v l A a sv T tl g1 (Nat.le_trans h2 g2) (Nat.le_trans h2 g3)
  · intro w1 hb base B e s A a sv T tl g1 g2 g3 g4 g5
    exact a2 w1 (hr.trans (hb.narrow h1 h2)) base B e s A a sv T tl g1 (Nat.le_trans h2 g2) g3 (Nat.le_trans h2 g4) (Nat.le_trans h2 g5)
  · intro w1 hb A a sv T tl B b sv2 T2 tl2 g1 g2 g3
    exact a3 w1 (hr.trans (hb.narrow h1 h2)) A a sv T tl B b sv2 T2 tl2 g1 g2 (Nat.le_trans h2 g3)
/-- a field's pointer -/
def FieldIs (f : Value) (i : Nat) : Prop := ∃ n, Fun2 f n #[] ∧ ∀ A w, Calls Try.prog n #[.pointer (some ⟨A, 0, none⟩)] w fun x w' => x = .returned (.pointer (some ⟨A, i, none⟩)) ∧ w = w'
end Go.Proofs.Ytjilbcefikbihaa
