/- Merged: CnM, CnP, CnCl, CnNew, CnOk, CnNt, CnBo, CnPr, CnBo2, CnCom, CnLogM, CnNo. A chain as a value: what its calls tell and leave. No condition. A chain in memory: footprints; each part of it may change. No condition. Closures that a chain asks: goesOn, isFrom, hasRoom. Condition: sizes. Contract of chain's New. No condition. A chain that is right stays so. No condition. Contract of chain's note. Condition: sizes. What a chain asks that is so or isn't: Send's, Recv's. Condition: sizes; the constants lie where they lie. Contract of chain's proves. Condition: what is asked of a root tells so, wherever it is asked. What a chain asks that is so or isn't: settle's, Ack's, Timeout's. Condition: sizes; the constants lie where they lie. Contract of chain's Commit. Condition: sizes. Mathematics of a chain's log: notes of the blocks from a place on. No condition. Contract of chain's noted. Condition: the height is one of its blocks'. -/
import Derived.Test.YtbjchfcoacmaaaaGreatDoorMkPQ
import Derived.Test.YtbjchfcoacmaaaaGreatDoorStComQ
import Derived.Test.YtbjchfcoacmaaaaGreatDoorCaMQ
import Derived.Test.YtbjchfcoacmaaaaGreatDoorPkDigQ
import Derived.Test.YtbjchfcoacmaaaaGreatDoorPfBQ
import Derived.Test.YtbjchfcoacmaaaaGreatDoorNtValQ
import Derived.Test.YtbjchfcoacmaaaaGreatDoorClSet2Q
import Derived.Test.YtbjchfcoacmaaaaGreatDoorCnAskQ
import Derived.WalkSpells
import Derived.Outline
import Derived.Test.YtbjchfcoacmaaaaGreatDoorWidCQ
import Derived.ProofKit
import Derived.Deep.QuietTactic
import Derived.BigQuiet
import Derived.Test.YtbjchfcoacmaaaaGreatDoorHeldLastQ
import Derived.Deep.RegionHeld
import Derived.Test.YtbjchfcoacmaaaaGreatDoorPfQ2Q
import Derived.Test.YtbjchfcoacmaaaaGreatDoorPkCutQ
namespace Go.Proofs.YtbjchfcoacmaaaaGreatDoor
open Go.RowKit
set_option linter.unusedVariables false
/-- a chain: its number, its store, what its client knows (n: how often it was told at most), its next sequence, its first height, the notes -/
structure ChV where
  id : Nat
  st : StV
  hs : List Nat
  f : Int → Option ByteArray
  n : Nat
  next : Nat
  first : Nat
  blks : List (List NtV)
  built : List NtV
def newCh (id h seq : Nat) : ChV := ⟨id, newV h, [], fun _ => none, 0, seq, h, [[]], []⟩
structure ChOk (c : ChV) : Prop where
  id : c.id ≤ 1
  st : StOk c.st
  hs : c.hs.length ≤ c.n
  n : c.n ≤ 4000
  next : 1 ≤ c.next ∧ c.next < 18446744073709551616
  first : c.first = c.st.first
  len : c.blks.length = c.st.blks.length
  blks : ∀ l ∈ c.blks, l.length ≤ 1000
  built : c.built.length ≤ 1000
def ChV.pk (c : ChV) (t : Nat) (d : ByteArray) : PkV := ⟨(c.id : Int), (c.next : Int), (t : Int), d⟩
def goesE (c : ChV) : Int := if c.st.height = 18446744073709551615 then 12 else 0
def fromE (p : PkV) (id : Int) : Int := if PkOk p ∧ p.f = id then 0 else 1
def roomE (c : ChV) (k : Nat) : Int := if c.st.now.length + k ≤ 4096 then 0 else 2
def ChV.has (c : ChV) (k : ByteArray) : Bool := (lk c.st.now k).isSome
def ntOf (k : Int) (p : PkV) : NtV := ⟨k, p.f, p.q, p.t, p.d⟩
def ChV.note (c : ChV) (k : Int) (p : PkV) : ChV := { c with built := c.built ++ [ntOf k p] }
def sendE (c : ChV) (d : ByteArray) (t : Nat) : List Int :=
  [goesE c, (if c.next ≠ 18446744073709551615 then 0 else 12), fromE (c.pk t d) (c.id : Int), (if latF c.hs < t then 0 else 10), roomE c 1]
def comD (p : PkV) : ByteArray := dgT (comT p)
def ansD (p : PkV) : ByteArray := dgT (ansT p)
def ChV.set (c : ChV) (k v : ByteArray) : ChV := { c with st := (setV c.st k v).1 }
def ChV.del (c : ChV) (k : ByteArray) : ChV := { c with st := (delV c.st k).1 }
def sendC (c : ChV) (d : ByteArray) (t : Nat) : ChV := if firstE (sendE c d t) = 0 then ({ (c.set (keyT 99 c.next) (comD (c.pk t d))) with next := c.next + 1 }).note 1 (c.pk t d) else c
def zeroPk : PkV := ⟨0, 0, 0, ⟨#[]⟩⟩
def sendP (c : ChV) (d : ByteArray) (t : Nat) : PkV := if firstE (sendE c d t) = 0 then c.pk t d else zeroPk
end Go.Proofs.YtbjchfcoacmaaaaGreatDoor
namespace Go.Proofs.YtbjchfcoacmaaaaGreatDoor
open Go.RowKit
set_option linter.unusedVariables false
/-- a client in memory, in O -/
def ClF (w : World) (O : Nat → Prop) (C n : Nat) (hs : List Nat) (f : Int → Option ByteArray) : Prop :=
  ∃ base M N v, CliS w base C M N v hs f ∧ N ≤ n ∧ O C ∧ O M ∧ ∀ k, v.ownBlock = some k → O k
theorem ClF.keeps {w w' : World} {O S : Nat → Prop} {C n : Nat} {hs : List Nat} {f : Int → Option ByteArray} (h : ClF w O C n hs f) (hk : Kq.Keeps S w w') (hS : ∀ k, O k → ¬ S k) : ClF w' O C n hs f := by
  obtain ⟨base, M, N, v, h1, h2, h3, h4, h5⟩ := h
  exact ⟨base, M, N, v, h1.keeps hk (hS _ h3) (hS _ h4) (fun k hk => hS _ (h5 k hk)), h2, h3, h4, h5⟩
theorem ClF.mono {w : World} {O O' : Nat → Prop} {C n : Nat} {hs : List Nat} {f : Int → Option ByteArray} (h : ClF w O C n hs f) (hO : ∀ k, O k → O' k) : ClF w O' C n hs f := by
  obtain ⟨base, M, N, v, h1, h2, h3, h4, h5⟩ := h
  exact ⟨base, M, N, v, h1, h2, hO _ h3, hO _ h4, fun k hk => hO _ (h5 k hk)⟩
theorem ClF.set {w w' : World} {O : Nat → Prop} {base C M N n : Nat} {v : Value} {hs hs' : List Nat} {f f' : Int → Option ByteArray} (h : CliS w base C M N v hs f) (hN : N ≤ n) (h3 : O C) (h4 : O M) (h5 : ∀ k, v.ownBlock = some k → O k) (hp : SetP w base C M (N + 1) v hs' f' w') : ClF w' (Ext O w w') C (n + 1) hs' f' ∧ Kq.Keeps O w w' := by
  obtain ⟨v', g1, g2, g3⟩ := hp
  refine ⟨⟨base, M, N + 1, v', g1, by omega, Or.inl h3, Or.inl h4, fun k hk => ?_⟩, g2.mono (fun k _ hk => ?_)⟩
  · have hlt := own_ltK g1.own hk
    rcases g3 k hk with h' | h'
    · exact Or.inl (h5 k h')
    · exact Or.inr ⟨h', hlt⟩
  · rcases hk with rfl | rfl | hk
    · exact h3
    · exact h4
    · exact h5 _ hk
def ntE : Kq.Elt NtV := ⟨5, NtV.nc, fun _ => rfl, fun x u hu => by
  simp only [NtV.nc, List.mem_cons, List.not_mem_nil, or_false] at hu
  rcases hu with rfl | rfl | rfl | rfl | rfl <;> rfl, by decide⟩
/-- the notes of the blocks, and of the one that is built -/
structure NsP (w : World) (O : Nat → Prop) (vb vn : Value) (Vs : List Value) (blks : List (List NtV)) (built : List NtV) : Prop where
  own : w.ownsRow 0 28 1 vb Vs.length Vs
  len : Vs.length = blks.length
  at_ : ∀ i (h : i < Vs.length) (h2 : i < blks.length), ∃ A cap, Vs[i] = .slice A blks[i].length cap ∧ blks[i].length ≤ cap ∧ EnAt NtV.nc w A blks[i] ∧ ∀ b off, A = some ⟨b, off, none⟩ → O b ∧ vn.ownBlock ≠ some b ∧ vb.ownBlock ≠ some b ∧ b < w.heap.size
  now : w.ownsRow 0 58 5 vn built.length (ntE.flat built)
  ob : ∀ k, vb.ownBlock = some k → O k
  on : ∀ k, vn.ownBlock = some k → O k
section
variable {w w' : World} {O : Nat → Prop} {vb vn : Value} {Vs : List Value} {blks : List (List NtV)} {built : List NtV}
theorem NsP.keeps {S : Nat → Prop} (h : NsP w O vb vn Vs blks built) (hk : Kq.Keeps S w w') (hS : ∀ k, O k → ¬ S k) : NsP w' O vb vn Vs blks built :=
  ⟨own_keepsS h.own hk (fun k hs e => hS k (h.ob k e) hs), h.len, fun i h1 h2 => by
    obtain ⟨A, cap, e, hc, ha, hb⟩ := h.at_ i h1 h2
    exact ⟨A, cap, e, hc, ha.keeps hk (fun g o e => hS _ (hb g o e).1), fun b off e => ⟨(hb b off e).1, (hb b off e).2.1, (hb b off e).2.2.1, Nat.lt_of_lt_of_le (hb b off e).2.2.2 hk.size⟩⟩, own_keepsS h.now hk (fun k hs e => hS k (h.on k e) hs), h.ob, h.on⟩
theorem NsP.mono {O' : Nat → Prop} (h : NsP w O vb vn Vs blks built) (hO : ∀ k, O k → O' k) : NsP w O' vb vn Vs blks built :=
  ⟨h.own, h.len, fun i h1 h2 => by
    obtain ⟨A, cap, e, hc, ha, hb⟩ := h.at_ i h1 h2
    exact ⟨A, cap, e, hc, ha, fun b off e => ⟨hO _ (hb b off e).1, (hb b off e).2⟩⟩, h.now, fun k hk => hO _ (h.ob k hk), fun k hk => hO _ (h.on k hk)⟩
theorem NsP.apart (h : NsP w O vb vn Vs blks built) (k : Nat) (hk : vb.ownBlock = some k) : vn.ownBlock ≠ some k := own_ne h.own h.now (by decide) k hk
end
/-- a chain at the block B, all of it in O -/
structure ChS (w : World) (O : Nat → Prop) (B S C : Nat) (Os Oc On : Nat → Prop) (vb vn : Value) (Vs : List Value) (c : ChV) : Prop where
  blk : w.heap[B]? = some (.cells #[.int .i64 (c.id : Int), .pointer (some ⟨S, 0, none⟩), .pointer (some ⟨C, 0, none⟩), .int .u64 (c.next : Int), .int .u64 (c.first : Int), vb, vn] 84 (0, 0))
  st : StP w Os S c.st
  cl : ClF w Oc C c.n c.hs c.f
  ns : NsP w On vb vn Vs c.blks c.built
  lt : ∀ k, O k → k < w.heap.size
  oB : O B
  sub : ∀ k, Os k ∨ Oc k ∨ On k → O k ∧ k ≠ B
  d1 : ∀ k, Os k → ¬ Oc k
  d2 : ∀ k, Os k → ¬ On k
  d3 : ∀ k, Oc k → ¬ On k
def ChP (w : World) (O : Nat → Prop) (B : Nat) (c : ChV) : Prop := ∃ S C Os Oc On vb vn Vs, ChS w O B S C Os Oc On vb vn Vs c
theorem StP.keeps {w w' : World} {O S : Nat → Prop} {B : Nat} {s : StV} (h : StP w O B s) (hk : Kq.Keeps S w w') (hS : ∀ k, O k → ¬ S k) : StP w' O B s := by
  obtain ⟨Mn, sh, A, q, cap, Ms, h⟩ := h
  exact ⟨Mn, sh, A, q, cap, Ms, h.keeps hk hS⟩
section
variable {w w' : World} {O : Nat → Prop} {B S C : Nat} {Os Oc On : Nat → Prop} {vb vn : Value} {Vs : List Value} {c : ChV}
theorem ChS.c0 (h : ChS w O B S C Os Oc On vb vn Vs c) : w.cell? ⟨B, 0, none⟩ = some (.int .i64 (c.id : Int)) := Kq.blk_cell h.blk 0
theorem ChS.c1 (h : ChS w O B S C Os Oc On vb vn Vs c) : w.cell? ⟨B, 1, none⟩ = some (.pointer (some ⟨S, 0, none⟩)) := Kq.blk_cell h.blk 1
theorem ChS.c2 (h : ChS w O B S C Os Oc On vb vn Vs c) : w.cell? ⟨B, 2, none⟩ = some (.pointer (some ⟨C, 0, none⟩)) := Kq.blk_cell h.blk 2
theorem ChS.c3 (h : ChS w O B S C Os Oc On vb vn Vs c) : w.cell? ⟨B, 3, none⟩ = some (.int .u64 (c.next : Int)) := Kq.blk_cell h.blk 3
theorem ChS.c4 (h : ChS w O B S C Os Oc On vb vn Vs c) : w.cell? ⟨B, 4, none⟩ = some (.int .u64 (c.first : Int)) := Kq.blk_cell h.blk 4
theorem ChS.c5 (h : ChS w O B S C Os Oc On vb vn Vs c) : w.cell? ⟨B, 5, none⟩ = some vb := Kq.blk_cell h.blk 5
theorem ChS.c6 (h : ChS w O B S C Os Oc On vb vn Vs c) : w.cell? ⟨B, 6, none⟩ = some vn := Kq.blk_cell h.blk 6
theorem ChS.fz (h : ChS w O B S C Os Oc On vb vn Vs c) (j : Nat) : w.frozen? ⟨B, j, none⟩ = false := Kq.blk_free h.blk j
theorem ChS.keeps {T : Nat → Prop} (h : ChS w O B S C Os Oc On vb vn Vs c) (hk : Kq.Keeps T w w') (hT : ∀ k, O k → ¬ T k) : ChS w' O B S C Os Oc On vb vn Vs c :=
  ⟨hk.blk h.blk (hT _ h.oB), h.st.keeps hk (fun k hO => hT k (h.sub k (Or.inl hO)).1), h.cl.keeps hk (fun k hO => hT k (h.sub k (Or.inr (Or.inl hO))).1), h.ns.keeps hk (fun k hO => hT k (h.sub k (Or.inr (Or.inr hO))).1), fun k hO => Nat.lt_of_lt_of_le (h.lt k hO) hk.size, h.oB, h.sub, h.d1, h.d2, h.d3⟩
theorem ChS.below (h : ChS w O B S C Os Oc On vb vn Vs c) (hb : Below w.heap.size w w') : ChS w' O B S C Os Oc On vb vn Vs c :=
  h.keeps (T := fun _ => False) (Kq.Keeps.of_below hb (fun k h1 h2 => absurd h1 (Nat.not_le.2 h2))) (fun _ _ h => h)
theorem ChS.widen {O' : Nat → Prop} (h : ChS w O B S C Os Oc On vb vn Vs c) (hO : ∀ k, O k → O' k) (hl : ∀ k, O' k → k < w.heap.size) : ChS w O' B S C Os Oc On vb vn Vs c :=
  ⟨h.blk, h.st, h.cl, h.ns, hl, hO _ h.oB, fun k hk => ⟨hO _ (h.sub k hk).1, (h.sub k hk).2⟩, h.d1, h.d2, h.d3⟩
theorem ChS.bel (h : ChS w O B S C Os Oc On vb vn Vs c) : B < w.heap.size := h.lt _ h.oB
theorem ext_lt {O : Nat → Prop} {w w' : World} (hl : ∀ k, O k → k < w.heap.size) (hs : w.heap.size ≤ w'.heap.size) : ∀ k, Ext O w w' k → k < w'.heap.size := fun k hk => by
  rcases hk with h | h
  · exact Nat.lt_of_lt_of_le (hl k h) hs
  · exact h.2
/-- the store changed -/
theorem ChS.setS {s' : StV} (h : ChS w O B S C Os Oc On vb vn Vs c) (hs : StP w' (Ext Os w w') S s') (hk : Kq.Keeps Os w w') : ChS w' (Ext O w w') B S C (Ext Os w w') Oc On vb vn Vs { c with st := s' } := by
  refine ⟨hk.blk h.blk (fun e => (h.sub B (Or.inl e)).2 rfl), hs, h.cl.keeps hk (fun k h1 h2 => h.d1 k h2 h1), h.ns.keeps hk (fun k h1 h2 => h.d2 k h2 h1), ext_lt h.lt hk.size, Or.inl h.oB, ?_, ?_, ?_, h.d3⟩
  · rintro k ((h1 | h1) | h1 | h1)
    · exact ⟨Or.inl (h.sub k (Or.inl h1)).1, (h.sub k (Or.inl h1)).2⟩
    · exact ⟨Or.inr h1, fun e => by have := h.bel; omega⟩
    · exact ⟨Or.inl (h.sub k (Or.inr (Or.inl h1))).1, (h.sub k (Or.inr (Or.inl h1))).2⟩
    · exact ⟨Or.inl (h.sub k (Or.inr (Or.inr h1))).1, (h.sub k (Or.inr (Or.inr h1))).2⟩
  · rintro k (h1 | h1) h2
    · exact h.d1 k h1 h2
    · have := h.lt k (h.sub k (Or.inr (Or.inl h2))).1; omega
  · rintro k (h1 | h1) h2
    · exact h.d2 k h1 h2
    · have := h.lt k (h.sub k (Or.inr (Or.inr h2))).1; omega
/-- the client changed -/
theorem ChS.setC {n' : Nat} {hs' : List Nat} {f' : Int → Option ByteArray} (h : ChS w O B S C Os Oc On vb vn Vs c) (hs : ClF w' (Ext Oc w w') C n' hs' f') (hk : Kq.Keeps Oc w w') : ChS w' (Ext O w w') B S C Os (Ext Oc w w') On vb vn Vs { c with n := n', hs := hs', f := f' } := by
  refine ⟨hk.blk h.blk (fun e => (h.sub B (Or.inr (Or.inl e))).2 rfl), h.st.keeps hk (fun k h1 h2 => h.d1 k h1 h2), hs, h.ns.keeps hk (fun k h1 h2 => h.d3 k h2 h1), ext_lt h.lt hk.size, Or.inl h.oB, ?_, ?_, h.d2, ?_⟩
  · rintro k (h1 | (h1 | h1) | h1)
    · exact ⟨Or.inl (h.sub k (Or.inl h1)).1, (h.sub k (Or.inl h1)).2⟩
    · exact ⟨Or.inl (h.sub k (Or.inr (Or.inl h1))).1, (h.sub k (Or.inr (Or.inl h1))).2⟩
    · exact ⟨Or.inr h1, fun e => by have := h.bel; omega⟩
    · exact ⟨Or.inl (h.sub k (Or.inr (Or.inr h1))).1, (h.sub k (Or.inr (Or.inr h1))).2⟩
  · rintro k h1 (h2 | h2)
    · exact h.d1 k h1 h2
    · have := h.lt k (h.sub k (Or.inl h1)).1; omega
  · rintro k (h1 | h1) h2
    · exact h.d3 k h1 h2
    · have := h.lt k (h.sub k (Or.inr (Or.inr h2))).1; omega
/-- the notes changed, and their cells -/
theorem ChS.setN {w1 w2 : World} {vb' vn' : Value} {Vs' : List Value} {blks' : List (List NtV)} {built' : List NtV} (h : ChS w O B S C Os Oc On vb vn Vs c) (hn : NsP w1 (Ext On w w1) vb' vn' Vs' blks' built') (hk : Kq.Keeps On w w1) (hb3 : w2.heap[B]? = some (.cells #[.int .i64 (c.id : Int), .pointer (some ⟨S, 0, none⟩), .pointer (some ⟨C, 0, none⟩), .int .u64 (c.next : Int), .int .u64 (c.first : Int), vb', vn'] 84 (0, 0))) (k3 : Kq.Keeps (· = B) w1 w2) : ChS w2 (Ext O w w1) B S C Os Oc (Ext On w w1) vb' vn' Vs' { c with blks := blks', built := built' } ∧ Kq.Keeps O w w2 := by
  have hB : ∀ k, Ext On w w1 k → k ≠ B := fun k hk' e => by
    rcases hk' with h1 | h1
    · exact (h.sub k (Or.inr (Or.inr h1))).2 e
    · have := h.bel; omega
  refine ⟨⟨hb3, (h.st.keeps hk (fun k h1 h2 => h.d2 k h1 h2)).keeps k3 (fun k h1 e => (h.sub k (Or.inl h1)).2 e), (h.cl.keeps hk (fun k h1 h2 => h.d3 k h1 h2)).keeps k3 (fun k h1 e => (h.sub k (Or.inr (Or.inl h1))).2 e), hn.keeps k3 (fun k h1 e => hB k h1 e), fun k hk' => Nat.lt_of_lt_of_le (ext_lt h.lt hk.size k hk') k3.size, Or.inl h.oB, ?_, h.d1, ?_, ?_⟩, ?_⟩
  · rintro k (h1 | h1 | h1 | h1)
    · exact ⟨Or.inl (h.sub k (Or.inl h1)).1, (h.sub k (Or.inl h1)).2⟩
    · exact ⟨Or.inl (h.sub k (Or.inr (Or.inl h1))).1, (h.sub k (Or.inr (Or.inl h1))).2⟩
    · exact ⟨Or.inl (h.sub k (Or.inr (Or.inr h1))).1, (h.sub k (Or.inr (Or.inr h1))).2⟩
    · exact ⟨Or.inr h1, fun e => by have := h.bel; omega⟩
  · rintro k h1 (h2 | h2)
    · exact h.d2 k h1 h2
    · have := h.lt k (h.sub k (Or.inl h1)).1; omega
  · rintro k h1 (h2 | h2)
    · exact h.d3 k h1 h2
    · have := h.lt k (h.sub k (Or.inr (Or.inl h1))).1; omega
  · exact (hk.mono (fun k _ h1 => (h.sub k (Or.inr (Or.inr h1))).1)).trans (k3.mono (fun k _ e => e ▸ h.oB))
/-- the next sequence changed -/
theorem ChS.setX (x : Nat) (h : ChS w O B S C Os Oc On vb vn Vs c) : ChS (w.setCell ⟨B, 3, none⟩ (.int .u64 (x : Int))) O B S C Os Oc On vb vn Vs { c with next := x } ∧ Kq.Keeps O w (w.setCell ⟨B, 3, none⟩ (.int .u64 (x : Int))) := by
  have k1 : Kq.Keeps (· = B) w (w.setCell ⟨B, 3, none⟩ (.int .u64 (x : Int))) := Kq.Keeps.setCell _ _ _ rfl
  refine ⟨⟨Kq.blk_set h.blk 3 _, h.st.keeps k1 (fun k h1 e => (h.sub k (Or.inl h1)).2 e), h.cl.keeps k1 (fun k h1 e => (h.sub k (Or.inr (Or.inl h1))).2 e), h.ns.keeps k1 (fun k h1 e => (h.sub k (Or.inr (Or.inr h1))).2 e), fun k hk' => Nat.lt_of_lt_of_le (h.lt k hk') k1.size, h.oB, h.sub, h.d1, h.d2, h.d3⟩, k1.mono (fun k _ e => e ▸ h.oB)⟩
/-- a note more -/
theorem NsP.note {w1 : World} {vn' : Value} {blks : List (List NtV)} {built : List NtV} (x : NtV) (h : NsP w On vb vn Vs blks built) (hl : ∀ k, On k → k < w.heap.size) (hown : w1.ownsRow 0 58 5 vn' (built ++ [x]).length (ntE.flat (built ++ [x]))) (hg : w.grownBy w1 vn.ownBlock) (hf : ∀ j, vn'.ownBlock = some j → some j = vn.ownBlock ∨ w.heap.size ≤ j) : NsP w1 (Ext On w w1) vb vn' Vs blks (built ++ [x]) ∧ Kq.Keeps On w w1 := by
  have hk1 : Kq.Keeps (fun k => vn.ownBlock = some k) w w1 := Kq.Keeps.grown hg (fun j _ hj => hj)
  have hk : Kq.Keeps On w w1 := hk1.mono (fun k _ h1 => h.on k h1)
  refine ⟨⟨own_keepsS h.own hk1 (fun k h1 h2 => h.apart k h2 h1), h.len, fun i h1 h2 => ?_, hown, fun k hk' => Or.inl (h.ob k hk'), fun k hk' => ?_⟩, hk⟩
  · obtain ⟨A, cap, e, hc, ha, hb⟩ := h.at_ i h1 h2
    refine ⟨A, cap, e, hc, ha.keeps hk1 (fun g o e h' => (hb g o e).2.1 h'), fun b off e' => ⟨Or.inl (hb b off e').1, fun h' => ?_, (hb b off e').2.2.1, Nat.lt_of_lt_of_le (hb b off e').2.2.2 hk.size⟩⟩
    rcases hf b h' with h'' | h''
    · exact (hb b off e').2.1 h''.symm
    · have := (hb b off e').2.2.2; omega
  · rcases hf k hk' with h' | h'
    · exact Or.inl (h.on k h'.symm)
    · exact Or.inr ⟨h', own_ltK hown hk'⟩
/-- a block more -/
theorem NsP.com {w1 : World} {vb' : Value} {blks : List (List NtV)} {built : List NtV} (h : NsP w On vb vn Vs blks built) (hl : ∀ k, On k → k < w.heap.size) (hown : w1.ownsRow 0 28 1 vb' (Vs ++ [vn]).length (Vs ++ [vn])) (hg : w.grownBy w1 vb.ownBlock) (hf : ∀ j, vb'.ownBlock = some j → some j = vb.ownBlock ∨ w.heap.size ≤ j) : NsP w1 (Ext On w w1) vb' (.slice none 0 0) (Vs ++ [vn]) (blks ++ [built]) [] ∧ Kq.Keeps On w w1 := by
  have hk1 : Kq.Keeps (fun k => vb.ownBlock = some k) w w1 := Kq.Keeps.grown hg (fun j _ hj => hj)
  have hk : Kq.Keeps On w w1 := hk1.mono (fun k _ h1 => h.ob k h1)
  have hne : ∀ k, vn.ownBlock = some k → vb'.ownBlock ≠ some k := fun k h1 h2 => by
    rcases hf k h2 with h' | h'
    · exact h.apart k h'.symm h1
    · have := hl k (h.on k h1); omega
  refine ⟨⟨hown, by rw [List.length_append, List.length_append, h.len]; rfl, fun i h1 h2 => ?_, ⟨rfl, Or.inl ⟨rfl, rfl⟩⟩, fun k hk' => ?_, fun k hk' => (by cases hk')⟩, hk⟩
  · by_cases hi : i < Vs.length
    · obtain ⟨A, cap, e, hc, ha, hb⟩ := h.at_ i hi (by rw [← h.len]; exact hi)
      have e1 : (Vs ++ [vn])[i] = Vs[i] := List.getElem_append_left hi
      have e2 : (blks ++ [built])[i] = blks[i]'(by rw [← h.len]; exact hi) := List.getElem_append_left (by rw [← h.len]; exact hi)
      rw [e1, e2]
      refine ⟨A, cap, e, hc, ha.keeps hk1 (fun g o e h' => (hb g o e).2.2.1 h'), fun b off e' => ⟨Or.inl (hb b off e').1, fun h' => (by cases h'), fun h' => ?_, Nat.lt_of_lt_of_le (hb b off e').2.2.2 hk.size⟩⟩
      rcases hf b h' with h'' | h''
      · exact (hb b off e').2.2.1 h''.symm
      · have := (hb b off e').2.2.2; omega
    · have hil : i = Vs.length := by rw [List.length_append, List.length_singleton] at h1; omega
      have hib : i = blks.length := by rw [hil, h.len]
      have e1 : (Vs ++ [vn])[i] = vn := by simp [hil]
      have e2 : (blks ++ [built])[i] = built := by simp [hib]
      rw [e1, e2]
      obtain ⟨A, cap, e, hc, ha, hA, -⟩ := Kq.Elt.own_at h.now
      refine ⟨A, cap, e, hc, fun j hj => ?_, fun b off e' => ?_⟩
      · obtain ⟨b, off, eA, h1', h2'⟩ := ha j hj
        have hob : vn.ownBlock = some b := by
          rcases h.now.2 with ⟨e', h0⟩ | ⟨g, c', cur, e', _⟩
          · exact absurd h0 (by omega)
          · rw [e'] at e
            injection e with e3 e4 e5
            rw [eA] at e3
            injection e3 with e3
            injection e3 with e3 e6
            rw [e', e3]; rfl
        refine ⟨b, off, eA, Nat.lt_of_lt_of_le h1' hk.size, fun i hi => ?_⟩
        exact (World.cell?_of_block (hk1.block b h1' (fun h' => h.apart b h' hob))).trans (h2' i hi)
      · have hob : vn.ownBlock = some b := by
          rcases h.now.2 with ⟨e'', h0⟩ | ⟨g, c', cur, e'', _⟩
          · rw [e''] at e; injection e with e3; rw [e'] at e3; cases e3
          · rw [e''] at e
            injection e with e3 e4 e5
            rw [e'] at e3
            injection e3 with e3
            injection e3 with e3 e6
            rw [e'', e3]; rfl
        exact ⟨Or.inl (h.on b hob), fun h' => (by cases h'), hne b hob, Nat.lt_of_lt_of_le (hl b (h.on b hob)) hk.size⟩
  · rcases hf k hk' with h' | h'
    · exact Or.inl (h.ob k h'.symm)
    · exact Or.inr ⟨h', own_ltK hown hk'⟩
end
/-- what a call tells that may change the chain -/
def StepC (w : World) (O : Nat → Prop) (B : Nat) (r : Value) (c' : ChV) (x : Ending) (w' : World) : Prop := x = .returned r ∧ ChP w' (Ext O w w') B c' ∧ Kq.Keeps O w w'
end Go.Proofs.YtbjchfcoacmaaaaGreatDoor
namespace Go.Proofs.YtbjchfcoacmaaaaGreatDoor
open Go.RowKit
set_option linter.unusedVariables false
theorem ChP.below {w w' : World} {O : Nat → Prop} {B : Nat} {c : ChV} (h : ChP w O B c) (hb : Below w.heap.size w w') : ChP w' O B c := by
  obtain ⟨S, C, Os, Oc, On, vb, vn, Vs, h⟩ := h
  exact ⟨S, C, Os, Oc, On, vb, vn, Vs, h.below hb⟩
theorem ChP.lt {w : World} {O : Nat → Prop} {B : Nat} {c : ChV} (h : ChP w O B c) : B < w.heap.size := by
  obtain ⟨S, C, Os, Oc, On, vb, vn, Vs, h⟩ := h
  exact h.bel
theorem StP.below {w w' : World} {O : Nat → Prop} {B : Nat} {s : StV} (h : StP w O B s) (hb : Below w.heap.size w w') : StP w' O B s :=
  h.keeps (S := fun _ => False) (Kq.Keeps.of_below hb (fun k h1 h2 => absurd h1 (Nat.not_le.2 h2))) (fun _ _ h => h)
theorem ClF.below {w w' : World} {O : Nat → Prop} {C n : Nat} {hs : List Nat} {f : Int → Option ByteArray} (h : ClF w O C n hs f) (hb : Below w.heap.size w w') : ClF w' O C n hs f :=
  h.keeps (S := fun _ => False) (Kq.Keeps.of_below hb (fun k h1 h2 => absurd h1 (Nat.not_le.2 h2))) (fun _ _ h => h)
/-- a packet in a box -/
def PkBox (w : World) (X : Nat) (p : PkV) : Prop := X < w.heap.size ∧ w.cell? ⟨X, 0, none⟩ = some (.int .i64 p.f) ∧ w.cell? ⟨X, 1, none⟩ = some (.int .u64 p.q) ∧ w.cell? ⟨X, 2, none⟩ = some (.int .u64 p.t) ∧ w.cell? ⟨X, 3, none⟩ = some (.string p.d)
theorem PkBox.below {w w' : World} {X : Nat} {p : PkV} (h : PkBox w X p) (hb : Below w.heap.size w w') : PkBox w' X p :=
  ⟨Nat.lt_of_lt_of_le h.1 hb.size, (hb.cell (p := ⟨X, 0, none⟩) h.1).trans h.2.1, (hb.cell (p := ⟨X, 1, none⟩) h.1).trans h.2.2.1, (hb.cell (p := ⟨X, 2, none⟩) h.1).trans h.2.2.2.1, (hb.cell (p := ⟨X, 3, none⟩) h.1).trans h.2.2.2.2⟩
theorem PkBox.new (w : World) (p : PkV) (T : TypeId) : PkBox (w.alloc (.cells #[.int .i64 p.f, .int .u64 p.q, .int .u64 p.t, .string p.d] T)) w.heap.size p :=
  ⟨by simp, by simp, by simp, by simp, by simp⟩
/-- a value in a box -/
def Box (w : World) (X : Nat) (v : Value) : Prop := X < w.heap.size ∧ w.cell? ⟨X, 0, none⟩ = some v
theorem Box.below {w w' : World} {X : Nat} {v : Value} (h : Box w X v) (hb : Below w.heap.size w w') : Box w' X v := ⟨Nat.lt_of_lt_of_le h.1 hb.size, (hb.cell (p := ⟨X, 0, none⟩) h.1).trans h.2⟩
theorem Box.new (w : World) (v : Value) (T : TypeId) : Box (w.alloc (.cells #[v] T)) w.heap.size v := ⟨by simp, by simp⟩
section
variable {w : World} {O : Nat → Prop} {B : Nat} {c : ChV}
set_option maxRecDepth 100000 in
set_option maxHeartbeats 1000000 in
theorem cn_goes (h : ChP w O B c) : Calls Tryz.prog 60 #[.pointer (some ⟨B, 0, none⟩)] w fun x w' => x = .returned (.int .i64 (goesE c)) ∧ Below w.heap.size w w' := by
  obtain ⟨S, C, Os, Oc, On, vb, vn, Vs, h⟩ := h
  have c1 := h.c1
  have HH := Lib.hid (st_height w Os S c.st h.st)
  clear h
  unfold goesE
  generalize c.st.height = H at *
  by_cases e : H = 18446744073709551615
  · have t1 : ((H : Int) == 18446744073709551615) = true := by rw [beq_iff_eq]; omega
    rw [if_pos e]
    clear e
    go_enter Tryz.func60, Tryz.ntmps60
    go_wp2_with fail
    refine HH.out.mono ?_
    rintro x w' ⟨rfl, rfl⟩
    go_wp2
    go_ret
    exact ⟨rfl, Below.refl _ _⟩
  · have t1 : ((H : Int) == 18446744073709551615) = false := by rw [beq_eq_false_iff_ne]; omega
    rw [if_neg e]
    clear e
    go_enter Tryz.func60, Tryz.ntmps60
    go_wp2_with fail
    refine HH.out.mono ?_
    rintro x w' ⟨rfl, rfl⟩
    go_wp2
    go_ret
    exact ⟨rfl, Below.refl _ _⟩
theorem goes_tells (h : ChP w O B c) : Tells w (.func (.func 60) #[.pointer (some ⟨B, 0, none⟩)] #[]) (.int .i64 (goesE c)) :=
  ⟨_, _, _, rfl, enter_fn Tryz.func60 (by kernel_rfl) rfl, fun w' hb => cn_goes (h.below hb)⟩
end
set_option maxRecDepth 100000 in
set_option maxHeartbeats 1000000 in
theorem cn_from1 (X Y : Nat) (p : PkV) (id : Int) (w : World) (h : PkBox w X p) (hY : Box w Y (.int .i64 id)) : Calls Tryz.prog 105 #[.pointer (some ⟨X, 0, none⟩), .pointer (some ⟨Y, 0, none⟩)] w fun x w' => x = .returned (.bool (decide (PkOk p ∧ p.f = id))) ∧ Below w.heap.size w w' := by
  obtain ⟨f, q, t, d⟩ := p
  have H := Lib.hid (And.intro h hY)
  obtain ⟨-, c0, c1, c2, c3⟩ := h
  simp only at c0 c1 c2 c3
  clear hY
  by_cases hok : PkOk ⟨f, q, t, d⟩
  · have HC := Lib.hid (pk_check_ok f q t d w hok)
    have HE : Hid (decide (PkOk ⟨f, q, t, d⟩ ∧ f = id) = (f == id)) := Lib.hid (by simp only [hok, true_and]; rfl)
    simp only
    rw [HE.out]
    clear hok HE
    go_enter Tryz.func105, Tryz.ntmps105
    go_wp2_with fail
    refine HC.out.mono ?_
    rintro x w' ⟨rfl, hb⟩
    have HB := Lib.hid hb
    have c0 := (H.out.1.below HB.out).2.1
    have c4 := (H.out.2.below HB.out).2
    simp only at c0
    clear hb
    go_wp2
    go_ret
    exact ⟨rfl, HB.out⟩
  · have HC := Lib.hid (pk_check_bad f q t d w hok)
    have HE : Hid (decide (PkOk ⟨f, q, t, d⟩ ∧ f = id) = false) := Lib.hid (by simp [hok])
    simp only
    rw [HE.out]
    clear hok HE
    go_enter Tryz.func105, Tryz.ntmps105
    go_wp2_with fail
    refine HC.out.mono ?_
    rintro x w' ⟨rfl, hb⟩
    have HB := Lib.hid hb
    have c0 := (H.out.1.below HB.out).2.1
    have c4 := (H.out.2.below HB.out).2
    simp only at c0
    clear hb
    go_wp2
    go_ret
    exact ⟨rfl, HB.out⟩
set_option maxRecDepth 100000 in
set_option maxHeartbeats 1000000 in
theorem cn_from (R : Value) (f q t : Int) (d : ByteArray) (id : Int) (w : World) : Calls Tryz.prog 63 #[R, .agg #[.int .i64 f, .int .u64 q, .int .u64 t, .string d], .int .i64 id] w fun x w' => ∃ v, x = .returned v ∧ Tells w' v (.int .i64 (fromE ⟨f, q, t, d⟩ id)) ∧ Below w.heap.size w w' := by
  have hb1 := Kq.below_alloc w (.cells #[.int .i64 f, .int .u64 q, .int .u64 t, .string d] 46)
  have p1 := PkBox.new w ⟨f, q, t, d⟩ 46
  simp only at p1
  obtain ⟨z, hz⟩ : ∃ z, z = w.alloc (.cells #[.int .i64 f, .int .u64 q, .int .u64 t, .string d] 46) := ⟨_, rfl⟩
  have z1 : z.heap.size = w.heap.size + 1 := by rw [hz]; simp
  have hb2 := Kq.below_alloc z (.cells #[.int .i64 id] 3)
  have p2 := Box.new z (.int .i64 id) 3
  rw [← hz] at hb1 p1
  have p3 := p1.below hb2
  have HU : Hid (∀ w', w' = z.alloc (.cells #[.int .i64 id] 3) → Calls Tryz.prog 61 #[.int .i64 1, .func (.func 105) #[] #[.pointer (some ⟨w.heap.size, 0, none⟩), .pointer (some ⟨w.heap.size + 1, 0, none⟩)]] w' fun x w'' => ∃ v, x = .returned v ∧ Tells w'' v (.int .i64 (fromE ⟨f, q, t, d⟩ id)) ∧ Below w'.heap.size w' w'') := Lib.hid (fun w' e => by
    have ht : Tells w' (.func (.func 105) #[] #[.pointer (some ⟨w.heap.size, 0, none⟩), .pointer (some ⟨w.heap.size + 1, 0, none⟩)]) (.bool (decide (PkOk ⟨f, q, t, d⟩ ∧ f = id))) := ⟨_, _, _, rfl, enter_fn Tryz.func105 (by kernel_rfl) rfl, fun w2 hb => cn_from1 _ _ ⟨f, q, t, d⟩ id w2 ((e ▸ p3).below hb) (by rw [← z1]; exact (e ▸ p2 : Box w' _ _).below hb)⟩
    refine (cn_unless _ _ 1 w' ht ⟨_, _, _, rfl⟩).mono ?_
    rintro x w2 ⟨v, rfl, h1, h2⟩
    refine ⟨v, rfl, ?_, h2⟩
    unfold fromE
    by_cases hp : PkOk ⟨f, q, t, d⟩ ∧ f = id
    · rw [decide_eq_true hp, if_pos rfl] at h1; rw [if_pos hp]; exact h1
    · rw [decide_eq_false hp, if_neg (by decide)] at h1; rw [if_neg hp]; exact h1)
  have HB := Lib.hid (hb1.trans (hb2.mono (Nat.le_of_lt (by omega))))
  generalize fromE ⟨f, q, t, d⟩ id = ev at *
  have z2 := z1
  rw [hz] at HU HB z2
  clear hb1 hb2 p1 p2 p3 z1 hz z
  go_enter Tryz.func63, Tryz.ntmps63
  go_wp2_with fail
  refine (HU.out _ rfl).mono ?_
  rintro x w' ⟨v, rfl, h1, h2⟩
  have HT := Lib.hid (And.intro h1 (HB.out.trans (h2.mono HB.out.size)))
  clear h1 h2
  go_wp2
  go_ret
  exact ⟨v, rfl, HT.out⟩
set_option maxRecDepth 100000 in
set_option maxHeartbeats 1000000 in
theorem cn_room1 {O : Nat → Prop} {B : Nat} {c : ChV} (X Y k : Nat) (w : World) (h : ChP w O B c) (hc : ChOk c) (hk : k ≤ 10) (hX : Box w X (.pointer (some ⟨B, 0, none⟩))) (hY : Box w Y (.int .i64 (k : Int))) : Calls Tryz.prog 106 #[.pointer (some ⟨X, 0, none⟩), .pointer (some ⟨Y, 0, none⟩)] w fun x w' => x = .returned (.bool (decide (c.st.now.length + k ≤ 4096))) ∧ Below w.heap.size w w' := by
  obtain ⟨S, C, Os, Oc, On, vb, vn, Vs, h⟩ := h
  have c1 := h.c1
  have x1 := hX.2
  have y1 := hY.2
  have HH := Lib.hid (fun r => Calls.quiet_of_same (st_len (w.drewN r) Os S c.st (h.st.below (below_drewN (Below.refl _ _) r))))
  have hn := hc.st.now.1
  clear h hc hX hY
  generalize c.st.now.length = L at *
  have m1 : wrap64 ((L : Int) + (k : Int)) = ((L + k : Nat) : Int) := by rw [IntWalk.wrap64_in _ (by omega)]; omega
  have m2 : IntKind.i64.wrap ((L : Int) + (k : Int)) = ((L + k : Nat) : Int) := by rw [IntWalk.i64_in _ (by omega)]; omega
  have m3 : decide (((L + k : Nat) : Int) ≤ 4096) = decide (L + k ≤ 4096) := by simp only [decide_eq_decide]; omega
  rw [← m3]
  generalize ((L + k : Nat) : Int) = z at *
  clear m3 hn hk
  go_enter Tryz.func106, Tryz.ntmps106
  go_wp2
  go_quiet ((first | (go_at_call 107; exact HH.out _)))
  generalize hwq : w.drewN nq = wq
  have HQ : Hid (Below w.heap.size w wq) := Lib.hid (by rw [← hwq]; exact below_drewN (Below.refl _ _) nq)
  clear hwq
  go_wp2
  go_ret
  exact ⟨rfl, HQ.out⟩
set_option maxRecDepth 100000 in
set_option maxHeartbeats 1000000 in
theorem cn_room {O : Nat → Prop} {B : Nat} {c : ChV} (k : Nat) (w : World) (h : ChP w O B c) (hc : ChOk c) (hk : k ≤ 10) : Calls Tryz.prog 66 #[.pointer (some ⟨B, 0, none⟩), .int .i64 (k : Int)] w fun x w' => ∃ v, x = .returned v ∧ Tells w' v (.int .i64 (roomE c k)) ∧ Below w.heap.size w w' := by
  have hb1 := Kq.below_alloc w (.cells #[.pointer (some ⟨B, 0, none⟩)] 132)
  have p1 := Box.new w (.pointer (some ⟨B, 0, none⟩)) 132
  obtain ⟨z, hz⟩ : ∃ z, z = w.alloc (.cells #[.pointer (some ⟨B, 0, none⟩)] 132) := ⟨_, rfl⟩
  have z1 : z.heap.size = w.heap.size + 1 := by rw [hz]; simp
  have hb2 := Kq.below_alloc z (.cells #[.int .i64 (k : Int)] 3)
  have p2 := Box.new z (.int .i64 (k : Int)) 3
  rw [← hz] at hb1 p1
  have p3 := p1.below hb2
  have hbb := hb1.trans (hb2.mono (Nat.le_of_lt (by omega)))
  have HU : Hid (∀ w', w' = z.alloc (.cells #[.int .i64 (k : Int)] 3) → Calls Tryz.prog 61 #[.int .i64 2, .func (.func 106) #[] #[.pointer (some ⟨w.heap.size, 0, none⟩), .pointer (some ⟨w.heap.size + 1, 0, none⟩)]] w' fun x w'' => ∃ v, x = .returned v ∧ Tells w'' v (.int .i64 (roomE c k)) ∧ Below w'.heap.size w' w'') := Lib.hid (fun w' e => by
    have ht : Tells w' (.func (.func 106) #[] #[.pointer (some ⟨w.heap.size, 0, none⟩), .pointer (some ⟨w.heap.size + 1, 0, none⟩)]) (.bool (decide (c.st.now.length + k ≤ 4096))) := ⟨_, _, _, rfl, enter_fn Tryz.func106 (by kernel_rfl) rfl, fun w2 hb => cn_room1 _ _ k w2 ((h.below (e ▸ hbb)).below hb) hc hk ((e ▸ p3).below hb) (by rw [← z1]; exact (e ▸ p2 : Box w' _ _).below hb)⟩
    refine (cn_unless _ _ 2 w' ht ⟨_, _, _, rfl⟩).mono ?_
    rintro x w2 ⟨v, rfl, h1, h2⟩
    refine ⟨v, rfl, ?_, h2⟩
    unfold roomE
    by_cases hp : c.st.now.length + k ≤ 4096
    · rw [decide_eq_true hp, if_pos rfl] at h1; rw [if_pos hp]; exact h1
    · rw [decide_eq_false hp, if_neg (by decide)] at h1; rw [if_neg hp]; exact h1)
  have HB := Lib.hid hbb
  generalize roomE c k = ev at *
  have z2 := z1
  rw [hz] at HU HB z2
  clear hb1 hb2 hbb p1 p2 p3 z1 hz z h hc hk
  go_enter Tryz.func66, Tryz.ntmps66
  go_wp2_with fail
  refine (HU.out _ rfl).mono ?_
  rintro x w' ⟨v, rfl, h1, h2⟩
  have HT := Lib.hid (And.intro h1 (HB.out.trans (h2.mono HB.out.size)))
  clear h1 h2
  go_wp2
  go_ret
  exact ⟨v, rfl, HT.out⟩
end Go.Proofs.YtbjchfcoacmaaaaGreatDoor
namespace Go.Proofs.YtbjchfcoacmaaaaGreatDoor
open Go.RowKit
set_option linter.unusedVariables false
set_option maxRecDepth 100000 in
set_option maxHeartbeats 1000000 in
theorem cn_new (id h seq : Nat) (w : World) (hid : id ≤ 1) (hs : seq ≠ 0) : Calls Tryz.prog 8 #[.int .i64 (id : Int), .int .u64 (h : Int), .int .u64 (seq : Int)] w fun x w' => ∃ B, x = .returned (.tuple #[.pointer (some ⟨B, 0, none⟩), .int .i64 0]) ∧ ChP w' (fun k => w.heap.size ≤ k ∧ k < w'.heap.size) B (newCh id h seq) ∧ Below w.heap.size w w' := by
  have t1 : decide ((id : Int) < 0) = false := decide_eq_false (by omega)
  have t2 : decide (1 < (id : Int)) = false := decide_eq_false (by omega)
  have t2' : decide (1 < id) = false := decide_eq_false (by omega)
  have t3 : ((seq : Int) == 0) = false := by rw [beq_eq_false_iff_ne]; omega
  have t3' : (seq == 0) = false := by rw [beq_eq_false_iff_ne]; omega
  clear hid hs
  go_enter Tryz.func8, Tryz.ntmps8
  go_wp2_with fail
  refine (st_new h w).mono ?_
  rintro x w1 ⟨S, rfl, hS, b1⟩
  have H1 := Lib.hid (And.intro hS b1)
  clear hS b1
  go_wp2_with fail
  refine (cl_new w1).mono ?_
  rintro x w2 ⟨rfl, hC, b2⟩
  have H2 := Lib.hid (And.intro hC b2)
  clear hC b2
  go_wp2
  go_ret2
  obtain ⟨wa, hwa⟩ : ∃ z, z = w2.alloc (.cells #[.int .i64 (id : Int), .pointer (some ⟨S, 0, none⟩), .pointer (some ⟨w1.heap.size + 1, 0, none⟩), .int .u64 (seq : Int), .int .u64 (h : Int), .slice (some ⟨w2.heap.size + 1, 0, none⟩) 1 1, .slice none 0 0] 82) := ⟨_, rfl⟩
  obtain ⟨wb, hwb⟩ : ∃ z, z = wa.alloc (.cells #[.slice none 0 0] 28) := ⟨_, rfl⟩
  obtain ⟨we, hwe⟩ : ∃ z, z = wb.alloc (.cells #[.int .i64 (id : Int), .pointer (some ⟨S, 0, none⟩), .pointer (some ⟨w1.heap.size + 1, 0, none⟩), .int .u64 (seq : Int), .int .u64 (h : Int), .slice (some ⟨w2.heap.size + 1, 0, none⟩) 1 1, .slice none 0 0] 84) := ⟨_, rfl⟩
  rw [← hwa, ← hwb, ← hwe]
  have s1 : wa.heap.size = w2.heap.size + 1 := by rw [hwa]; simp
  have s2 : wb.heap.size = w2.heap.size + 1 + 1 := by rw [hwb]; simp [s1]
  have s3 : we.heap.size = w2.heap.size + 1 + 1 + 1 := by rw [hwe]; simp [s2]
  have ba : Below w2.heap.size w2 wa := by rw [hwa]; exact Kq.below_alloc w2 _
  have bb : Below wa.heap.size wa wb := by rw [hwb]; exact Kq.below_alloc wa _
  have be : Below wb.heap.size wb we := by rw [hwe]; exact Kq.below_alloc wb _
  have b2e : Below w2.heap.size w2 we := (ba.trans (bb.mono (by omega))).trans (be.mono (by omega))
  have b1e : Below w1.heap.size w1 we := H2.out.2.trans (b2e.mono H2.out.2.size)
  have bwe : Below w.heap.size w we := H1.out.2.trans (b1e.mono H1.out.2.size)
  have z1 := H1.out.2.size
  have z2 := H2.out.2.size
  have z3 := H2.out.1
  have q1 : we.heap[w2.heap.size + 1 + 1]? = some (.cells #[.int .i64 (id : Int), .pointer (some ⟨S, 0, none⟩), .pointer (some ⟨w1.heap.size + 1, 0, none⟩), .int .u64 (seq : Int), .int .u64 (h : Int), .slice (some ⟨w2.heap.size + 1, 0, none⟩) 1 1, .slice none 0 0] 84 (0, 0)) := by rw [hwe, ← s2]; exact Kq.blk_new wb _ _ _
  have q2 : wb.heap[w2.heap.size + 1]? = some (.cells #[.slice none 0 0] 28 (0, 0)) := by rw [hwb, ← s1]; exact Kq.blk_new wa _ _ _
  have q3 := Kq.below_blk be q2 (Kq.blk_lt q2)
  have hcl : w1.heap.size + 1 < w2.heap.size := Kq.blk_lt z3.blk
  refine ⟨w2.heap.size + 1 + 1, rfl, ⟨S, w1.heap.size + 1, (fun k => w.heap.size ≤ k ∧ k < w1.heap.size), (fun k => w1.heap.size ≤ k ∧ k < w2.heap.size), (fun k => k = w2.heap.size + 1), .slice (some ⟨w2.heap.size + 1, 0, none⟩) 1 1, .slice none 0 0, [.slice none 0 0], ?_⟩, bwe⟩
  refine ⟨q1, H1.out.1.below b1e, ⟨w1.heap.size, w1.heap.size, 0, .slice none 0 0, z3.below b2e, Nat.le_refl _, ⟨by omega, hcl⟩, ⟨Nat.le_refl _, by omega⟩, fun k hk => (by cases hk)⟩, ⟨⟨rfl, Or.inr ⟨w2.heap.size + 1, 1, #[.slice none 0 0], rfl, Nat.zero_le _, q3, Nat.le_refl _, by decide, rfl, rfl⟩⟩, rfl, fun i h1 h2 => ?_, ⟨rfl, Or.inl ⟨rfl, rfl⟩⟩, fun k hk => ?_, fun k hk => (by cases hk)⟩, fun k hk => hk.2, ⟨by omega, by omega⟩, ?_, ?_, ?_, ?_⟩
  · obtain rfl : i = 0 := by simpa using h1
    exact ⟨none, 0, rfl, Nat.le_refl _, fun j hj => (by cases hj), fun b off e => (by cases e)⟩
  · have : w2.heap.size + 1 = k := Option.some.inj hk
    exact this.symm
  · rintro k (hk | hk | hk)
    · exact ⟨⟨hk.1, by omega⟩, by omega⟩
    · exact ⟨⟨by omega, by omega⟩, by omega⟩
    · exact ⟨⟨by omega, by omega⟩, by omega⟩
  · intro k h1 h2; omega
  · intro k h1 h2; omega
  · intro k h1 h2; omega
end Go.Proofs.YtbjchfcoacmaaaaGreatDoor
namespace Go.Proofs.YtbjchfcoacmaaaaGreatDoor
open Go.RowKit
set_option linter.unusedVariables false
theorem setV_same (s : StV) (k v : ByteArray) : (setV s k v).1.first = s.first ∧ (setV s k v).1.blks = s.blks := by
  unfold setV
  split
  · exact ⟨rfl, rfl⟩
  · split <;> exact ⟨rfl, rfl⟩
theorem delV_same (s : StV) (k : ByteArray) : (delV s k).1.first = s.first ∧ (delV s k).1.blks = s.blks := by
  unfold delV
  split <;> exact ⟨rfl, rfl⟩
theorem ChOk.set {c : ChV} (h : ChOk c) (k v : ByteArray) : ChOk (c.set k v) := by
  obtain ⟨e1, e2⟩ := setV_same c.st k v
  exact ⟨h.id, setV_ok h.st k v, h.hs, h.n, h.next, h.first.trans e1.symm, by show _ = ((setV c.st k v).1).blks.length; rw [e2]; exact h.len, h.blks, h.built⟩
theorem ChOk.del {c : ChV} (h : ChOk c) (k : ByteArray) : ChOk (c.del k) := by
  obtain ⟨e1, e2⟩ := delV_same c.st k
  exact ⟨h.id, delV_ok h.st k, h.hs, h.n, h.next, h.first.trans e1.symm, by show _ = ((delV c.st k).1).blks.length; rw [e2]; exact h.len, h.blks, h.built⟩
theorem ChOk.note {c : ChV} (h : ChOk c) (hb : c.built.length < 1000) (k : Int) (p : PkV) : ChOk (c.note k p) :=
  ⟨h.id, h.st, h.hs, h.n, h.next, h.first, h.len, h.blks, by show (c.built ++ [ntOf k p]).length ≤ 1000; rw [List.length_append]; exact hb⟩
theorem sendC_ok {c : ChV} (h : ChOk c) (hb : c.built.length < 1000) (d : ByteArray) (t : Nat) : ChOk (sendC c d t) := by
  unfold sendC
  by_cases e : firstE (sendE c d t) = 0
  · rw [if_pos e]
    have h1 := firstE_zero _ e (if c.next ≠ 18446744073709551615 then 0 else 12) (by simp [sendE])
    have hn : c.next ≠ 18446744073709551615 := by
      by_cases hp : c.next ≠ 18446744073709551615
      · exact hp
      · rw [if_neg hp] at h1; cases h1
    have g := h.set (keyT 99 c.next) (comD (c.pk t d))
    have hx := h.next
    have g2 : ChOk ({ (c.set (keyT 99 c.next) (comD (c.pk t d))) with next := c.next + 1 } : ChV) := ⟨g.id, g.st, g.hs, g.n, ⟨by show 1 ≤ c.next + 1; omega, by show c.next + 1 < 18446744073709551616; omega⟩, g.first, g.len, g.blks, g.built⟩
    exact g2.note hb _ _
  · rw [if_neg e]; exact h
theorem newCh_ok (id h seq : Nat) (hid : id ≤ 1) (hs : seq ≠ 0) (hs2 : seq < 18446744073709551616) (hh : h < 18446744073709551616) : ChOk (newCh id h seq) :=
  ⟨hid, newV_ok hh, Nat.le_refl _, by show 0 ≤ 4000; omega, ⟨by show 1 ≤ seq; omega, hs2⟩, rfl, rfl, fun l hl => by rw [List.mem_singleton.1 hl]; exact Nat.zero_le _, Nat.zero_le _⟩
end Go.Proofs.YtbjchfcoacmaaaaGreatDoor
namespace Go.Proofs.YtbjchfcoacmaaaaGreatDoor
open Go.RowKit
set_option linter.unusedVariables false
theorem infoNt : (Tryz.prog.info? 58).map (fun i => (i.zero, i.size, i.bytes)) = some (some (.agg #[.int .i64 0, .int .i64 0, .int .u64 0, .int .u64 0, .string ⟨#[]⟩]), 5, 48) := by kernel_rfl
def NtB (w : World) (B X : Nat) (v : Value) (f q t : Int) (d : ByteArray) : Prop := w.cell? ⟨B, 6, none⟩ = some v ∧ w.cell? ⟨X, 0, none⟩ = some (.int .i64 f) ∧ w.cell? ⟨X, 1, none⟩ = some (.int .u64 q) ∧ w.cell? ⟨X, 2, none⟩ = some (.int .u64 t) ∧ w.cell? ⟨X, 3, none⟩ = some (.string d)
section
variable {w : World} {O : Nat → Prop} {B : Nat} {c : ChV}
set_option maxRecDepth 100000 in
set_option maxHeartbeats 2000000 in
theorem cn_note (k f q t : Int) (d : ByteArray) (h : ChP w O B c) (hb : c.built.length ≤ 1000) : Calls Tryz.prog 69 #[.pointer (some ⟨B, 0, none⟩), .int .i64 k, .agg #[.int .i64 f, .int .u64 q, .int .u64 t, .string d]] w (StepC w O B (.tuple #[]) (c.note k ⟨f, q, t, d⟩)) := by
  obtain ⟨i0, hi0, hz0, hz1, hz2⟩ := info_partsB infoNt
  obtain ⟨S, C, Os, Oc, On, vb, vn, Vs, h⟩ := h
  obtain ⟨A, q0, cap, hvn⟩ := Kq.own_shape h.ns.now
  obtain ⟨X, hX⟩ : ∃ X, X = w.heap.size := ⟨_, rfl⟩
  obtain ⟨wa, hwa⟩ : ∃ z, z = w.alloc (.cells #[.int .i64 f, .int .u64 q, .int .u64 t, .string d] 46) := ⟨_, rfl⟩
  have p1 : PkBox wa X ⟨f, q, t, d⟩ := by rw [hwa, hX]; exact PkBox.new w ⟨f, q, t, d⟩ _
  have b1 : Below w.heap.size w wa := by rw [hwa]; exact Kq.below_alloc w _
  have HBL := Lib.hid hb
  have hwas : w.heap.size + 1 = wa.heap.size := by rw [hwa]; simp
  have HD0 : Hid (ChS wa.drew O B S C Os Oc On vb vn Vs c ∧ PkBox wa.drew X ⟨f, q, t, d⟩ ∧ Below w.heap.size w wa.drew ∧ X = w.heap.size ∧ w.heap.size + 1 = wa.drew.heap.size) := Lib.hid ⟨(h.below b1).below (Below.refl _ _).drew, p1.below (Below.refl _ _).drew, b1.drew, hX, hwas⟩
  have H := Lib.hid h
  have hS : NtB wa.drew B X vn f q t d := ⟨HD0.out.1.c6, HD0.out.2.1.2⟩
  clear h hb b1 p1 hwas
  subst hvn
  go_enter Tryz.func69, Tryz.ntmps69
  go_wp2
  rw [← hwa, ← hX]
  clear hwa hX
  obtain ⟨wd, hwd⟩ : ∃ z, z = wa.drew := ⟨_, rfl⟩
  refine Kq.wp_region_T 12 (fun cur => NtB cur B X (.slice A q0 cap) f q t d) (by kernel_rfl) hS (fun hS0 => ?_)
  rw [← hwd] at hS0 HD0 ⊢
  clear hwd hS
  unfold NtB at hS0
  dsimp only [NtB]
  refine Kq.wpAnyT_take (i := 0) (v := ?_) rfl rfl (by kernel_rfl) (by kernel_rfl) (by kernel_rfl) (by kernel_rfl) (fun _ _ _ h => h) (Or.inl ⟨by kernel_rfl, ?_⟩) (by assumption) ?_
  rotate_left
  · intro w hSw; (try dsimp only at hSw); go_simp; (try with_reducible rfl)
  refine Kq.wpAnyT_take (i := 1) (v := ?_) rfl rfl (by kernel_rfl) (by kernel_rfl) (by kernel_rfl) (by kernel_rfl) (fun _ _ _ h => h) (Or.inl ⟨by kernel_rfl, ?_⟩) (by assumption) ?_
  rotate_left
  · intro w hSw; (try dsimp only at hSw); go_simp; (try with_reducible rfl)
  refine Kq.wpAnyT_take (i := 2) (v := ?_) rfl rfl (by kernel_rfl) (by kernel_rfl) (by kernel_rfl) (by kernel_rfl) (fun _ _ _ h => h) (Or.inl ⟨by kernel_rfl, ?_⟩) (by assumption) ?_
  rotate_left
  · intro w hSw; (try dsimp only at hSw); go_simp; (try with_reducible rfl)
  refine Kq.wpAnyT_take (i := 3) (v := ?_) rfl rfl (by kernel_rfl) (by kernel_rfl) (by kernel_rfl) (by kernel_rfl) (fun _ _ _ h => h) (Or.inl ⟨by kernel_rfl, ?_⟩) (by assumption) ?_
  rotate_left
  · intro w hSw; (try dsimp only at hSw); go_simp; (try with_reducible rfl)
  refine Kq.wpAnyT_take (i := 4) (v := ?_) rfl rfl (by kernel_rfl) (by kernel_rfl) (by kernel_rfl) (by kernel_rfl) (fun _ _ _ h => h) (Or.inl ⟨by kernel_rfl, ?_⟩) (by assumption) ?_
  rotate_left
  · intro w hSw; (try dsimp only at hSw); go_simp; (try with_reducible rfl)
  refine Kq.wpAnyT_take (i := 5) (v := ?_) rfl rfl (by kernel_rfl) (by kernel_rfl) (by kernel_rfl) (by kernel_rfl) (fun _ _ _ h => h) (Or.inl ⟨by kernel_rfl, ?_⟩) (by assumption) ?_
  rotate_left
  · intro w hSw; (try dsimp only at hSw); go_simp; (try with_reducible rfl)
  refine Kq.wpAnyT_take (i := 6) (v := ?_) rfl rfl (by kernel_rfl) (by kernel_rfl) (by kernel_rfl) (by kernel_rfl) (fun _ _ _ h => h) (Or.inl ⟨by kernel_rfl, ?_⟩) (by assumption) ?_
  rotate_left
  · intro w hSw; (try dsimp only at hSw); go_simp; (try with_reducible rfl)
  refine Kq.wpAnyT_take (i := 7) (v := ?_) rfl rfl (by kernel_rfl) (by kernel_rfl) (by kernel_rfl) (by kernel_rfl) (fun _ _ _ h => h) (Or.inl ⟨by kernel_rfl, ?_⟩) (by assumption) ?_
  rotate_left
  · intro w hSw; (try dsimp only at hSw); go_simp; (try with_reducible rfl)
  refine Kq.wpAnyT_one (i := 8) (by kernel_rfl) rfl (fun K hK => ?_)
  go_simp
  have bz := Kq.below_alloc wd (.cells #[.int .i64 k, .int .i64 f, .int .u64 q, .int .u64 t, .string d] 58)
  have HSRC : Hid (Src Tryz.prog 5 28 (.slice (some ⟨wd.heap.size, 0, none⟩) 1 1) 1 (ntE.flat [ntOf k ⟨f, q, t, d⟩]) (wd.alloc (.cells #[.int .i64 k, .int .i64 f, .int .u64 q, .int .u64 t, .string d] 58))) := Lib.hid (Kq.Elt.At.src Tryz.underlying28 (E := ntE) 1 (Kq.Elt.made_one (E := ntE) (ntOf k ⟨f, q, t, d⟩) wd 58))
  have HD1 : Hid (ChS (wd.alloc (.cells #[.int .i64 k, .int .i64 f, .int .u64 q, .int .u64 t, .string d] 58)) O B S C Os Oc On vb (.slice A q0 cap) Vs c ∧ PkBox (wd.alloc (.cells #[.int .i64 k, .int .i64 f, .int .u64 q, .int .u64 t, .string d] 58)) X ⟨f, q, t, d⟩ ∧ Below w.heap.size w (wd.alloc (.cells #[.int .i64 k, .int .i64 f, .int .u64 q, .int .u64 t, .string d] 58)) ∧ X = w.heap.size) := Lib.hid ⟨HD0.out.1.below bz, HD0.out.2.1.below bz, HD0.out.2.2.1.trans (bz.mono HD0.out.2.2.1.size), HD0.out.2.2.2.1⟩
  clear bz hS0 HD0
  generalize wd.alloc (.cells #[.int .i64 k, .int .i64 f, .int .u64 q, .int .u64 t, .string d] 58) = ze at *
  generalize wd.heap.size = zb at *
  refine hK.out _ _ ⟨HD1.out.1.c6, HD1.out.2.1.2⟩ (fun hS0 => ?_)
  clear hK K
  refine Kq.wpAnyT_one (i := 9) (by kernel_rfl) rfl (fun K hK => ?_)
  rw [if_pos (by kernel_rfl)]
  refine Kq.wp_append_any _ (.tmp 10) (.tmp 14) 28 28 rfl 0 58 i0 (.agg #[.int .i64 0, .int .i64 0, .int .u64 0, .int .u64 0, .string ⟨#[]⟩]) 5 48 Tryz.underlying28 hi0 hz0 hz1 hz2 rfl (by decide) (.slice A q0 cap) c.built.length (ntE.flat c.built) (by kernel_rfl) HD1.out.1.ns.now (.slice (some ⟨zb, 0, none⟩) 1 1) 1 (ntE.flat [ntOf k ⟨f, q, t, d⟩]) (by kernel_rfl) HSRC.out ?e1 ?e2 (Nat.zero_le _) ?_
  case e1 => have := HBL.out; unfold maxLen; omega
  case e2 => have := HBL.out; omega
  intro v' z3 hown3 hgrow hfresh
  obtain ⟨a', q', cp', hv'⟩ := Kq.own_shape hown3
  subst hv'
  rw [← Kq.Elt.flat_append] at hown3
  have hN := NsP.note (ntOf k ⟨f, q, t, d⟩) HD1.out.1.ns (fun k hk => HD1.out.1.lt k (HD1.out.1.sub k (Or.inr (Or.inr hk))).1) (by rw [List.length_append]; exact hown3) hgrow hfresh
  have HD3 := Lib.hid (fun w2 h1 h2 => ChS.setN (w2 := w2) HD1.out.1 hN.1 hN.2 h1 h2)
  have HSZ : Hid (ze.heap.size ≤ z3.heap.size ∧ w.heap.size ≤ ze.heap.size) := Lib.hid ⟨hN.2.size, HD1.out.2.2.1.size⟩
  have HD4 : Hid (z3.heap[B]? = some (.cells #[.int .i64 (c.id : Int), .pointer (some ⟨S, 0, none⟩), .pointer (some ⟨C, 0, none⟩), .int .u64 (c.next : Int), .int .u64 (c.first : Int), vb, .slice A q0 cap] 84 (0, 0)) ∧ PkBox z3 X ⟨f, q, t, d⟩) := Lib.hid ⟨hN.2.blk HD1.out.1.blk (fun e => (HD1.out.1.sub B (Or.inr (Or.inr e))).2 rfl), by
    have hX : ¬ On X := fun e => by
      have h1 := H.out.lt X (H.out.sub X (Or.inr (Or.inr e))).1
      have := HD1.out.2.2.2
      omega
    have hp := HD1.out.2.1
    have hb := hN.2.block X hp.1 hX
    exact ⟨Nat.lt_of_lt_of_le hp.1 hN.2.size, (World.cell?_of_block hb).trans hp.2.1, (World.cell?_of_block hb).trans hp.2.2.1, (World.cell?_of_block hb).trans hp.2.2.2.1, (World.cell?_of_block hb).trans hp.2.2.2.2⟩⟩
  clear hown3 hgrow hfresh HSRC hS0 hN
  refine hK.out _ _ ⟨Kq.blk_cell HD4.out.1 6, HD4.out.2.2⟩ (fun hS0 => ?_)
  clear hK K
  have f6 := Kq.blk_free HD4.out.1 6
  have c6 := Kq.blk_cell HD4.out.1 6
  refine Kq.wpAnyT_one (i := 10) (by kernel_rfl) rfl (fun K hK => ?_)
  go_simp
  refine hK.out _ _ ⟨Kq.blk_cell HD4.out.1 6, HD4.out.2.2⟩ (fun hS0 => ?_)
  clear hK K
  refine Kq.wpAnyT_take (i := 11) (v := ?_) rfl rfl (by kernel_rfl) (by kernel_rfl) (by kernel_rfl) (by kernel_rfl) (fun _ _ _ h => h) (Or.inl ⟨by kernel_rfl, ?_⟩) (by assumption) ?_
  rotate_left
  · intro w hSw; (try dsimp only at hSw); go_simp; (try with_reducible rfl)
  refine Kq.wpAnyT_last (by kernel_rfl) rfl (fun K hK => ?_)
  go_simp
  refine hK.out _ _ ?_
  clear hK K
  refine Kq.wpAnyT_done (by kernel_rfl) ?_ _
  go_wp2
  go_end0
  obtain ⟨q1, q2⟩ := HD3.out _ (Kq.blk_set HD4.out.1 6 _) (Kq.Keeps.setCell _ _ _ rfl)
  have hsz : (z3.setCell ⟨B, 6, none⟩ (.slice a' q' cp')).heap.size = z3.heap.size := by simp [World.setCell]
  refine ⟨rfl, ⟨S, C, Os, Oc, _, vb, _, Vs, q1.widen (fun k hk => ?_) (fun k hk => ?_)⟩, (Kq.Keeps.of_below HD1.out.2.2.1 (fun k h1 h2 => absurd h2 (Nat.not_lt.2 h1))).trans q2⟩
  · rcases hk with h1 | h1
    · exact Or.inl h1
    · exact Or.inr (by have := HSZ.out; omega)
  · rcases hk with h1 | h1
    · have := H.out.lt k h1; have := HSZ.out; omega
    · exact h1.2
end
end Go.Proofs.YtbjchfcoacmaaaaGreatDoor
namespace Go.Proofs.YtbjchfcoacmaaaaGreatDoor
open Go.RowKit
set_option linter.unusedVariables false
section
variable {w : World} {O : Nat → Prop} {B : Nat} {c : ChV}
set_option maxRecDepth 100000 in
set_option maxHeartbeats 1000000 in
theorem cn_height (h : ChP w O B c) : Calls Tryz.prog 11 #[.pointer (some ⟨B, 0, none⟩)] w fun x w' => x = .returned (.int .u64 (c.st.height : Int)) ∧ w' = w := by
  obtain ⟨S, C, Os, Oc, On, vb, vn, Vs, h⟩ := h
  have c1 := h.c1
  have HH := Lib.hid (st_height w Os S c.st h.st)
  clear h
  generalize c.st.height = H at *
  go_enter Tryz.func11, Tryz.ntmps11
  go_wp2_with fail
  refine HH.out.mono ?_
  rintro x w' ⟨rfl, rfl⟩
  go_wp2
  go_ret
  exact ⟨rfl, rfl⟩
set_option maxRecDepth 100000 in
set_option maxHeartbeats 1000000 in
theorem cn_has (k : ByteArray) (hk : k.size ≤ maxLen) (h : ChP w O B c) : Calls Tryz.prog 80 #[.pointer (some ⟨B, 0, none⟩), .string k] w fun x w' => x = .returned (.bool (c.has k)) ∧ w' = w := by
  obtain ⟨S, C, Os, Oc, On, vb, vn, Vs, h⟩ := h
  have c1 := h.c1
  have HH := Lib.hid (st_get w Os S c.st k hk h.st)
  unfold ChV.has
  generalize (lk c.st.now k).getD ⟨#[]⟩ = r at *
  generalize (lk c.st.now k).isSome = b at *
  clear h hk
  go_enter Tryz.func80, Tryz.ntmps80
  go_wp2_with fail
  refine HH.out.mono ?_
  rintro x w' ⟨rfl, rfl⟩
  go_wp2
  go_ret
  exact ⟨rfl, rfl⟩
set_option maxRecDepth 100000 in
set_option maxHeartbeats 1000000 in
theorem cn_send1 (X : Nat) (h : ChP w O B c) (hX : Box w X (.pointer (some ⟨B, 0, none⟩))) : Calls Tryz.prog 62 #[.pointer (some ⟨X, 0, none⟩)] w fun x w' => x = .returned (.bool (decide (c.next ≠ 18446744073709551615))) ∧ Below w.heap.size w w' := by
  obtain ⟨S, C, Os, Oc, On, vb, vn, Vs, h⟩ := h
  have c3 := h.c3
  have x1 := hX.2
  clear h hX
  generalize c.next = n at *
  have m1 : (decide (n ≠ 18446744073709551615)) = ((n : Int) != 18446744073709551615) := by
    by_cases e : n = 18446744073709551615
    · subst e; rfl
    · have : (n : Int) ≠ 18446744073709551615 := by omega
      rw [decide_eq_true e]; exact (bne_iff_ne.2 this).symm
  rw [m1]
  clear m1
  go_enter Tryz.func62, Tryz.ntmps62
  go_wp2
  go_ret
  exact ⟨rfl, Below.refl _ _⟩
set_option maxRecDepth 100000 in
set_option maxHeartbeats 1000000 in
theorem cn_send2 (X Y t : Nat) (h : ChP w O B c) (hc : ChOk c) (hX : Box w X (.int .u64 (t : Int))) (hY : Box w Y (.pointer (some ⟨B, 0, none⟩))) : Calls Tryz.prog 64 #[.pointer (some ⟨X, 0, none⟩), .pointer (some ⟨Y, 0, none⟩)] w fun x w' => x = .returned (.bool (decide (latF c.hs < t))) ∧ Below w.heap.size w w' := by
  obtain ⟨S, C, Os, Oc, On, vb, vn, Vs, h⟩ := h
  have c2 := h.c2
  have x1 := hX.2
  have y1 := hY.2
  obtain ⟨base, M, N, v, hC, -⟩ := h.cl
  have hl : c.hs.length ≤ 1000000 := by have := hc.hs; have := hc.n; omega
  have HH := Lib.hid (fun r => Calls.quiet_of (n := r) (cl_latest_q base C M N v c.hs c.f (w.drewN r) (hC.below (below_drewN (Below.refl _ _) r)) hl))
  clear h hc hX hY hC hl
  generalize latF c.hs = L at *
  go_enter Tryz.func64, Tryz.ntmps64
  go_wp2
  go_quiet ((first | (go_at_call 65; exact HH.out _)))
  generalize hwq : w.drewN nq = wq
  have HQ : Hid (Below w.heap.size w wq) := Lib.hid (by rw [← hwq]; exact below_drewN (Below.refl _ _) nq)
  clear hwq
  go_wp2
  go_ret
  exact ⟨rfl, HQ.out⟩
def recv1B (c : ChV) (p : PkV) : Bool := decide (p.t > ((c.st.height + 1) % 18446744073709551616 : Nat))
set_option maxRecDepth 100000 in
set_option maxHeartbeats 1000000 in
theorem cn_recv1 (X Y : Nat) (p : PkV) (h : ChP w O B c) (hc : ChOk c) (hX : PkBox w X p) (hY : Box w Y (.pointer (some ⟨B, 0, none⟩))) : Calls Tryz.prog 78 #[.pointer (some ⟨X, 0, none⟩), .pointer (some ⟨Y, 0, none⟩)] w fun x w' => x = .returned (.bool (recv1B c p)) ∧ Below w.heap.size w w' := by
  have x1 := hX.2.2.2.1
  have y1 := hY.2
  have HH := Lib.hid (fun r => Calls.quiet_of_same (cn_height (h.below (below_drewN (Below.refl _ _) r))))
  have hH : c.st.height < 18446744073709551616 := by have := hc.st.top; have := hc.st.one; unfold StV.height; omega
  unfold recv1B
  clear h hc hX hY
  generalize c.st.height = H at *
  generalize p.t = t at *
  obtain ⟨z, hz⟩ : ∃ z : Int, z = (((H + 1) % 18446744073709551616 : Nat) : Int) := ⟨_, rfl⟩
  have m1 : IntKind.u64.wrap ((H : Int) + 1) = z := by rw [hz]; simp [IntKind.wrap, IntKind.bits, IntKind.signed]
  rw [← hz]
  clear hH hz
  go_enter Tryz.func78, Tryz.ntmps78
  go_wp2
  go_quiet ((first | (go_at_call 11; exact HH.out _)))
  generalize hwq : w.drewN nq = wq
  have HQ : Hid (Below w.heap.size w wq) := Lib.hid (by rw [← hwq]; exact below_drewN (Below.refl _ _) nq)
  clear hwq
  go_wp2
  go_ret
  exact ⟨rfl, HQ.out⟩
set_option maxRecDepth 100000 in
set_option maxHeartbeats 1000000 in
theorem cn_recv2 (X Y : Nat) (f : Int) (q : Nat) (t : Int) (d : ByteArray) (h : ChP w O B c) (hq : q < M64) (hX : Box w X (.pointer (some ⟨B, 0, none⟩))) (hY : PkBox w Y ⟨f, (q : Int), t, d⟩) : Calls Tryz.prog 79 #[.pointer (some ⟨X, 0, none⟩), .pointer (some ⟨Y, 0, none⟩)] w fun x w' => x = .returned (.bool (!(c.has (keyT 114 q)))) ∧ Below w.heap.size w w' := by
  have HT := Lib.hid (fun (w' : World) (hb : Below w.heap.size w w') => And.intro (hX.below hb).2 (hY.below hb).2.2.1)
  have HK := Lib.hid (fun w' => pk_received q w' hq)
  have HG := Lib.hid (fun (w' : World) (hb : Below w.heap.size w w') => cn_has (keyT 114 q) (by rw [keyT_size]; decide) (h.below hb))
  clear h hX hY hq
  generalize c.has (keyT 114 q) = b at *
  generalize keyT 114 q = key at *
  go_enter Tryz.func79, Tryz.ntmps79
  go_wp2
  have HZ0 : Hid (Below w.heap.size w w.drew) := Lib.hid (Below.refl _ _).drew
  refine wp_region_held_drew (S := fun w' => w'.cell? ⟨X, 0, none⟩ = some (.pointer (some ⟨B, 0, none⟩)) ∧ w'.cell? ⟨Y, 1, none⟩ = some (.int .u64 (q : Int))) (by kernel_rfl) (HT.out _ HZ0.out) (fun hS0 => ?_)
  generalize w.drew = z0 at *
  refine wpAnyH_take (i := 0) (v := ?_) rfl (by kernel_rfl) (by kernel_rfl) (by kernel_rfl) (fun _ _ _ h => h) (Or.inl ⟨by kernel_rfl, ?_⟩) (by assumption) ?_
  rotate_left
  · intro w hSw; (try dsimp only at hSw); go_simp; (try with_reducible rfl)
  refine wpAnyH_take (i := 1) (v := ?_) rfl (by kernel_rfl) (by kernel_rfl) (by kernel_rfl) (fun _ _ _ h => h) (Or.inl ⟨by kernel_rfl, ?_⟩) (by assumption) ?_
  rotate_left
  · intro w hSw; (try dsimp only at hSw); go_simp; (try with_reducible rfl)
  refine wpAnyH_take (i := 2) (v := ?_) rfl (by kernel_rfl) (by kernel_rfl) (by kernel_rfl) (fun _ _ _ h => h) (Or.inl ⟨by kernel_rfl, ?_⟩) (by assumption) ?_
  rotate_left
  · intro w hSw; (try dsimp only at hSw); go_simp; (try with_reducible rfl)
  refine wpAnyH_take (i := 3) (v := ?_) rfl (by kernel_rfl) (by kernel_rfl) (by kernel_rfl) (fun _ _ _ h => h) (Or.inl ⟨by kernel_rfl, ?_⟩) (by assumption) ?_
  rotate_left
  · intro w hSw; (try dsimp only at hSw); go_simp; (try with_reducible rfl)
  refine wpAnyH_take (i := 4) (v := ?_) rfl (by kernel_rfl) (by kernel_rfl) (by kernel_rfl) (fun _ _ _ h => h) (Or.inl ⟨by kernel_rfl, ?_⟩) (by assumption) ?_
  rotate_left
  · intro w hSw; (try dsimp only at hSw); go_simp; (try with_reducible rfl)
  refine wpAnyH_ready (rs := [5]) (by kernel_rfl) (by simp) ?_
  refine AllReadyH.cons rfl (fun K hK => ?_) AllReadyH.nil
  go_simp
  refine (HK.out z0).mono ?_
  rintro x z1 ⟨rfl, b1⟩
  have HZ1 : Hid (Below w.heap.size w z1) := Lib.hid (HZ0.out.trans (b1.mono HZ0.out.size))
  clear b1 HZ0 hS0
  refine hK.out _ _ (HT.out _ HZ1.out) (fun hS0 => ?_)
  clear hK K
  refine wpAnyH_ready (rs := [6]) (by kernel_rfl) (by simp) ?_
  refine AllReadyH.cons rfl (fun K hK => ?_) AllReadyH.nil
  go_simp
  refine (HG.out z1 HZ1.out).mono ?_
  rintro x z2 ⟨rfl, rfl⟩
  clear hS0
  refine hK.out _ _ (HT.out _ HZ1.out) (fun hS0 => ?_)
  clear hK K
  refine wpAnyH_take (i := 7) (v := ?_) rfl (by kernel_rfl) (by kernel_rfl) (by kernel_rfl) (fun _ _ _ h => h) (Or.inl ⟨by kernel_rfl, ?_⟩) (by assumption) ?_
  rotate_left
  · intro w hSw; (try dsimp only at hSw); go_simp; (try with_reducible rfl)
  refine wpAnyH_take (i := 8) (v := ?_) rfl (by kernel_rfl) (by kernel_rfl) (by kernel_rfl) (fun _ _ _ h => h) (Or.inl ⟨by kernel_rfl, ?_⟩) (by assumption) ?_
  rotate_left
  · intro w hSw; (try dsimp only at hSw); go_simp; (try with_reducible rfl)
  refine wpAnyH_done (by kernel_rfl) ?_ _
  go_wp2
  go_ret
  exact ⟨rfl, HZ1.out⟩
end
set_option maxRecDepth 100000 in
set_option maxHeartbeats 1000000 in
theorem cn_recv3 (X Y : Nat) (f : Int) (q t : Nat) (d root s : ByteArray) (w : World) (hq : q < M64) (ht : t < M64) (hs : s.size ≤ 100000) (hok : PkOk ⟨f, (q : Int), (t : Int), d⟩) (hL : LaidOk w) (hX : Box w X (.string s)) (hY : PkBox w Y ⟨f, (q : Int), (t : Int), d⟩) : Calls Tryz.prog 82 #[.string root, .pointer (some ⟨X, 0, none⟩), .pointer (some ⟨Y, 0, none⟩)] w fun x w' => x = .returned (.bool (hasP root (keyT 99 q) (comD ⟨f, (q : Int), (t : Int), d⟩) (pfParse s).1)) ∧ Below w.heap.size w w' := by
  have HT := Lib.hid (fun (w' : World) (hb : Below w.heap.size w w') => And.intro (hX.below hb).2 (hY.below hb).2)
  have HK := Lib.hid (fun w' => pk_sent q w' hq)
  have HC := Lib.hid (fun (w' : World) (hb : Below w.heap.size w w') => pk_commit f (q : Int) (t : Int) d w' (hL.later hb) hok (by unfold M64 at hq; omega) (by unfold M64 at ht; omega))
  have HP := Lib.hid (fun (key value : ByteArray) (w' : World) (hb : Below w.heap.size w w') => pf_has root s key value w' hs (hL.later hb))
  clear hX hY hq ht hs hok hL
  unfold comD
  generalize dgT (comT ⟨f, (q : Int), (t : Int), d⟩) = val at *
  generalize keyT 99 q = key at *
  have HP := Lib.hid (HP.out key val)
  generalize hasP root key val (pfParse s).1 = b at *
  simp only at HT
  go_enter Tryz.func82, Tryz.ntmps82
  go_wp2
  have HZ0 : Hid (Below w.heap.size w w.drew) := Lib.hid (Below.refl _ _).drew
  refine wp_region_held_drew (S := fun w' => w'.cell? ⟨X, 0, none⟩ = some (.string s) ∧ w'.cell? ⟨Y, 0, none⟩ = some (.int .i64 f) ∧ w'.cell? ⟨Y, 1, none⟩ = some (.int .u64 (q : Int)) ∧ w'.cell? ⟨Y, 2, none⟩ = some (.int .u64 (t : Int)) ∧ w'.cell? ⟨Y, 3, none⟩ = some (.string d)) (by kernel_rfl) (HT.out _ HZ0.out) (fun hS0 => ?_)
  generalize w.drew = z0 at *
  refine wpAnyH_take (i := 0) (v := ?_) rfl (by kernel_rfl) (by kernel_rfl) (by kernel_rfl) (fun _ _ _ h => h) (Or.inl ⟨by kernel_rfl, ?_⟩) (by assumption) ?_
  rotate_left
  · intro w hSw; (try dsimp only at hSw); go_simp; (try with_reducible rfl)
  refine wpAnyH_take (i := 1) (v := ?_) rfl (by kernel_rfl) (by kernel_rfl) (by kernel_rfl) (fun _ _ _ h => h) (Or.inl ⟨by kernel_rfl, ?_⟩) (by assumption) ?_
  rotate_left
  · intro w hSw; (try dsimp only at hSw); go_simp; (try with_reducible rfl)
  refine wpAnyH_take (i := 2) (v := ?_) rfl (by kernel_rfl) (by kernel_rfl) (by kernel_rfl) (fun _ _ _ h => h) (Or.inl ⟨by kernel_rfl, ?_⟩) (by assumption) ?_
  rotate_left
  · intro w hSw; (try dsimp only at hSw); go_simp; (try with_reducible rfl)
  refine wpAnyH_take (i := 3) (v := ?_) rfl (by kernel_rfl) (by kernel_rfl) (by kernel_rfl) (fun _ _ _ h => h) (Or.inl ⟨by kernel_rfl, ?_⟩) (by assumption) ?_
  rotate_left
  · intro w hSw; (try dsimp only at hSw); go_simp; (try with_reducible rfl)
  refine wpAnyH_take (i := 5) (v := ?_) rfl (by kernel_rfl) (by kernel_rfl) (by kernel_rfl) (fun _ _ _ h => h) (Or.inl ⟨by kernel_rfl, ?_⟩) (by assumption) ?_
  rotate_left
  · intro w hSw; (try dsimp only at hSw); go_simp; (try with_reducible rfl)
  refine wpAnyH_ready (rs := [4]) (by kernel_rfl) (by simp) ?_
  refine AllReadyH.cons rfl (fun K hK => ?_) AllReadyH.nil
  go_simp
  refine (HK.out z0).mono ?_
  rintro x z1 ⟨rfl, b1⟩
  have HZ1 : Hid (Below w.heap.size w z1) := Lib.hid (HZ0.out.trans (b1.mono HZ0.out.size))
  clear b1 HZ0 hS0
  refine hK.out _ _ (HT.out _ HZ1.out) (fun hS0 => ?_)
  clear hK K
  refine wpAnyH_ready (rs := [6]) (by kernel_rfl) (by simp) ?_
  refine AllReadyH.cons rfl (fun K hK => ?_) AllReadyH.nil
  go_simp
  refine (HC.out z1 HZ1.out).mono ?_
  rintro x z2 ⟨rfl, b1⟩
  have HZ2 : Hid (Below w.heap.size w z2) := Lib.hid (HZ1.out.trans (b1.mono HZ1.out.size))
  clear b1 HZ1 hS0
  refine hK.out _ _ (HT.out _ HZ2.out) (fun hS0 => ?_)
  clear hK K
  refine wpAnyH_ready (rs := [7]) (by kernel_rfl) (by simp) ?_
  refine AllReadyH.cons rfl (fun K hK => ?_) AllReadyH.nil
  go_simp
  refine (HP.out z2 HZ2.out).mono ?_
  rintro x z3 ⟨rfl, b1⟩
  have HZ3 : Hid (Below w.heap.size w z3) := Lib.hid (HZ2.out.trans (b1.mono HZ2.out.size))
  clear b1 HZ2 hS0
  refine hK.out _ _ (HT.out _ HZ3.out) (fun hS0 => ?_)
  clear hK K
  refine wpAnyH_take (i := 8) (v := ?_) rfl (by kernel_rfl) (by kernel_rfl) (by kernel_rfl) (fun _ _ _ h => h) (Or.inl ⟨by kernel_rfl, ?_⟩) (by assumption) ?_
  rotate_left
  · intro w hSw; (try dsimp only at hSw); go_simp; (try with_reducible rfl)
  refine wpAnyH_done (by kernel_rfl) ?_ _
  go_wp2
  go_ret
  exact ⟨rfl, HZ3.out⟩
end Go.Proofs.YtbjchfcoacmaaaaGreatDoor
namespace Go.Proofs.YtbjchfcoacmaaaaGreatDoor
open Go.RowKit
set_option linter.unusedVariables false
/-- a function of a text that tells b of it, in any world that has grown from w -/
def TellsR (w : World) (f : Value) (b : ByteArray → Bool) : Prop := ∃ n c0 c1, f = .func (.func n) c0 c1 ∧ (∀ args w, (callFunc n args).run Tryz.prog w = .ok (.enter n args) w) ∧ ∀ root w', Below w.heap.size w w' → Calls Tryz.prog n (c0 ++ #[.string root] ++ c1) w' fun x w'' => x = .returned (.bool (b root)) ∧ Below w'.heap.size w' w''
theorem TellsR.mono {w w' : World} {f : Value} {b : ByteArray → Bool} (h : TellsR w f b) (hb : Below w.heap.size w w') : TellsR w' f b := by
  obtain ⟨n, c0, c1, e, hr, hc⟩ := h
  exact ⟨n, c0, c1, e, hr, fun r w2 hb2 => hc r w2 (hb.trans (hb2.mono hb.size))⟩
def provesE (c : ChV) (H : Nat) (b : ByteArray → Bool) : Int := if (c.f (H : Int)).isSome then (if b ((c.f (H : Int)).getD ⟨#[]⟩) then 0 else 9) else 11
section
variable {w : World} {O : Nat → Prop} {B : Nat} {c : ChV}
set_option maxRecDepth 100000 in
set_option maxHeartbeats 1000000 in
theorem cn_proves1 (X Y Z H : Nat) (g : Value) (b : ByteArray → Bool) (h : ChP w O B c) (hH : H < M64) (hX : Box w X (.pointer (some ⟨B, 0, none⟩))) (hY : Box w Y (.int .u64 (H : Int))) (hZ : Box w Z g) (hg : TellsR w g b) : Calls Tryz.prog 130 #[.pointer (some ⟨X, 0, none⟩), .pointer (some ⟨Y, 0, none⟩), .pointer (some ⟨Z, 0, none⟩)] w fun x w' => x = .returned (.int .i64 (provesE c H b)) ∧ Below w.heap.size w w' := by
  obtain ⟨S, C, Os, Oc, On, vb, vn, Vs, h⟩ := h
  have c2 := h.c2
  have x1 := hX.2
  have y1 := hY.2
  obtain ⟨base, M, N, v, hC, -⟩ := h.cl
  obtain ⟨n, k0, k1, rfl, hrun, hcall⟩ := hg
  have HZ := Lib.hid hZ
  have HC := Lib.hid hcall
  have HH := Lib.hid (fun r => Calls.quiet_of_same ((cl_root base C M N v c.hs c.f H hH (w.drewN r) (hC.below (below_drewN (Below.refl _ _) r))).mono fun _ _ h => ⟨h.1, h.2.symm⟩))
  unfold provesE
  clear h hX hY hZ hC hH hcall
  generalize (c.f (H : Int)).getD ⟨#[]⟩ = r at *
  generalize (c.f (H : Int)).isSome = k at *
  cases k with
  | false =>
    go_enter Tryz.func130, Tryz.ntmps130
    go_wp2
    go_quiet ((first | (go_at_call 131; exact HH.out _)))
    generalize hwq : w.drewN nq = wq
    have HQ : Hid (Below w.heap.size w wq) := Lib.hid (by rw [← hwq]; exact below_drewN (Below.refl _ _) nq)
    clear hwq
    go_wp2
    go_ret
    exact ⟨rfl, HQ.out⟩
  | true =>
    obtain ⟨br, hbr⟩ : ∃ br, br = b r := ⟨_, rfl⟩
    have HC := Lib.hid (HC.out r)
    rw [← hbr] at HC ⊢
    clear hbr
    cases br
    all_goals
      go_enter Tryz.func130, Tryz.ntmps130
      go_wp2
      go_quiet ((first | (go_at_call 131; exact HH.out _)))
      generalize hwq : w.drewN nq = wq
      have HQ : Hid (Below w.heap.size w wq) := Lib.hid (by rw [← hwq]; exact below_drewN (Below.refl _ _) nq)
      clear hwq
      have z1 := (HZ.out.below HQ.out).2
      go_wp2_with fail
      refine (HC.out wq HQ.out).mono ?_
      rintro x w2 ⟨rfl, b2⟩
      have HB := Lib.hid (HQ.out.trans (b2.mono HQ.out.size))
      clear b2 z1 hrun HC
      go_wp2
      go_ret
      exact ⟨rfl, HB.out⟩
set_option maxRecDepth 100000 in
set_option maxHeartbeats 1000000 in
theorem cn_provesX (H : Nat) (g : Value) (h : ChP w O B c) (hH : H < M64) (hv : ∃ n c0 c1, g = .func (.func n) c0 c1) : Calls Tryz.prog 81 #[.pointer (some ⟨B, 0, none⟩), .int .u64 (H : Int), g] w fun x w' => ∃ v, x = .returned v ∧ (∀ b, TellsR w g b → Tells w' v (.int .i64 (provesE c H b))) ∧ (∃ n c0 c1, v = .func (.func n) c0 c1) ∧ Below w.heap.size w w' := by
  have hb1 := Kq.below_alloc w (.cells #[.pointer (some ⟨B, 0, none⟩)] 132)
  have p1 := Box.new w (.pointer (some ⟨B, 0, none⟩)) 132
  obtain ⟨z, hz⟩ : ∃ z, z = w.alloc (.cells #[.pointer (some ⟨B, 0, none⟩)] 132) := ⟨_, rfl⟩
  have z1 : z.heap.size = w.heap.size + 1 := by rw [hz]; simp
  have hb2 := Kq.below_alloc z (.cells #[.int .u64 (H : Int)] 22)
  have p2 := Box.new z (.int .u64 (H : Int)) 22
  rw [← hz] at hb1 p1
  have p3 := p1.below hb2
  have hbb := hb1.trans (hb2.mono (Nat.le_of_lt (by omega)))
  obtain ⟨y, hy⟩ : ∃ y, y = z.alloc (.cells #[.int .u64 (H : Int)] 22) := ⟨_, rfl⟩
  have y1 : y.heap.size = w.heap.size + 2 := by rw [hy]; simp [z1]
  have hb3 := Kq.below_alloc y (.cells #[g] 110)
  have p4 := Box.new y g 110
  rw [← hy] at p2 p3 hbb
  have p5 := p2.below hb3
  have p6 := p3.below hb3
  have hbc := hbb.trans (hb3.mono (Nat.le_of_lt (by omega)))
  obtain ⟨n, k0, k1, hge⟩ := hv
  have HU : Hid (∀ w', w' = y.alloc (.cells #[g] 110) → (∀ b, TellsR w g b → Tells w' (.func (.func 130) #[] #[.pointer (some ⟨w.heap.size, 0, none⟩), .pointer (some ⟨w.heap.size + 1, 0, none⟩), .pointer (some ⟨w.heap.size + 2, 0, none⟩)]) (.int .i64 (provesE c H b))) ∧ Below w.heap.size w w') := Lib.hid (fun w' e => ⟨fun b hg => ⟨_, _, _, rfl, enter_fn Tryz.func130 (by kernel_rfl) rfl, fun w2 hb => by
    subst e
    exact cn_proves1 _ _ _ H g b ((h.below hbc).below hb) hH (p6.below hb) (by rw [← z1]; exact p5.below hb) (by rw [← y1]; exact p4.below hb) ((hg.mono hbc).mono hb)⟩, e ▸ hbc⟩)
  have z2 := y1
  rw [hy, hz] at HU
  clear hb1 hb2 hb3 hbb hbc p1 p2 p3 p4 p5 p6 y1 z1 z2 hy y hz z hH
  subst hge
  go_enter Tryz.func81, Tryz.ntmps81
  go_wp2
  go_ret
  exact ⟨_, rfl, (HU.out _ rfl).1, ⟨_, _, _, rfl⟩, (HU.out _ rfl).2⟩
end
end Go.Proofs.YtbjchfcoacmaaaaGreatDoor
namespace Go.Proofs.YtbjchfcoacmaaaaGreatDoor
open Go.RowKit
set_option linter.unusedVariables false
def standsB (c : ChV) (q : Nat) (p : PkV) : Bool := if (lk c.st.now (keyT 99 q)).isSome then (((lk c.st.now (keyT 99 q)).getD ⟨#[]⟩).toList == (comD p).toList) else false
section
variable {w : World} {O : Nat → Prop} {B : Nat} {c : ChV}
set_option maxRecDepth 100000 in
set_option maxHeartbeats 1000000 in
theorem cn_stands (f : Int) (q t : Nat) (d : ByteArray) (h : ChP w O B c) (hq : q < M64) (ht : t < M64) (hok : PkOk ⟨f, (q : Int), (t : Int), d⟩) (hL : LaidOk w) : Calls Tryz.prog 133 #[.pointer (some ⟨B, 0, none⟩), .agg #[.int .i64 f, .int .u64 (q : Int), .int .u64 (t : Int), .string d]] w fun x w' => x = .returned (.bool (standsB c q ⟨f, (q : Int), (t : Int), d⟩)) ∧ Below w.heap.size w w' := by
  obtain ⟨S, C, Os, Oc, On, vb, vn, Vs, h⟩ := h
  obtain ⟨X, hX⟩ : ∃ X, X = w.heap.size := ⟨_, rfl⟩
  obtain ⟨wa, hwa⟩ : ∃ z, z = w.alloc (.cells #[.int .i64 f, .int .u64 (q : Int), .int .u64 (t : Int), .string d] 46) := ⟨_, rfl⟩
  have p1 : PkBox wa X ⟨f, (q : Int), (t : Int), d⟩ := by rw [hwa, hX]; exact PkBox.new w ⟨f, (q : Int), (t : Int), d⟩ _
  have b1 : Below w.heap.size w wa := by rw [hwa]; exact Kq.below_alloc w _
  have HT := Lib.hid (fun (w' : World) (hb : Below wa.heap.size wa w') => And.intro ((h.below b1).below hb).c1 (p1.below hb).2.2.1)
  have HT2 := Lib.hid (fun (w' : World) (hb : Below wa.heap.size wa w') => (p1.below hb).2)
  have HK := Lib.hid (fun w' => pk_sent q w' hq)
  have HG := Lib.hid (fun (w' : World) (hb : Below wa.heap.size wa w') => st_get w' Os S c.st (keyT 99 q) (by rw [keyT_size]; decide) ((h.below b1).below hb).st)
  have HC := Lib.hid (fun (w' : World) (hb : Below wa.heap.size wa w') => pk_commit f (q : Int) (t : Int) d w' ((hL.later b1).later hb) hok (by unfold M64 at hq; omega) (by unfold M64 at ht; omega))
  have HB := Lib.hid b1
  clear h hq ht hok hL b1 p1
  unfold standsB comD
  generalize dgT (comT ⟨f, (q : Int), (t : Int), d⟩) = val at *
  generalize keyT 99 q = key at *
  generalize (lk c.st.now key).getD ⟨#[]⟩ = r at *
  generalize (lk c.st.now key).isSome = b at *
  simp only at HT HT2
  have c0 := (HT.out wa (Below.refl _ _)).1
  go_enter Tryz.func133, Tryz.ntmps133
  go_wp2
  rw [← hwa, ← hX]
  clear hwa hX c0
  have HZ0 : Hid (Below wa.heap.size wa wa.drew) := Lib.hid (Below.refl _ _).drew
  refine wp_region_held_drew (S := fun w' => w'.cell? ⟨B, 1, none⟩ = some (.pointer (some ⟨S, 0, none⟩)) ∧ w'.cell? ⟨X, 1, none⟩ = some (.int .u64 (q : Int))) (by kernel_rfl) (HT.out _ HZ0.out) (fun hS0 => ?_)
  generalize wa.drew = z0 at *
  refine wpAnyH_take (i := 0) (v := ?_) rfl (by kernel_rfl) (by kernel_rfl) (by kernel_rfl) (fun _ _ _ h => h) (Or.inl ⟨by kernel_rfl, ?_⟩) (by assumption) ?_
  rotate_left
  · intro w hSw; (try dsimp only at hSw); go_simp; (try with_reducible rfl)
  refine wpAnyH_take (i := 1) (v := ?_) rfl (by kernel_rfl) (by kernel_rfl) (by kernel_rfl) (fun _ _ _ h => h) (Or.inl ⟨by kernel_rfl, ?_⟩) (by assumption) ?_
  rotate_left
  · intro w hSw; (try dsimp only at hSw); go_simp; (try with_reducible rfl)
  refine wpAnyH_take (i := 2) (v := ?_) rfl (by kernel_rfl) (by kernel_rfl) (by kernel_rfl) (fun _ _ _ h => h) (Or.inl ⟨by kernel_rfl, ?_⟩) (by assumption) ?_
  rotate_left
  · intro w hSw; (try dsimp only at hSw); go_simp; (try with_reducible rfl)
  refine wpAnyH_take (i := 3) (v := ?_) rfl (by kernel_rfl) (by kernel_rfl) (by kernel_rfl) (fun _ _ _ h => h) (Or.inl ⟨by kernel_rfl, ?_⟩) (by assumption) ?_
  rotate_left
  · intro w hSw; (try dsimp only at hSw); go_simp; (try with_reducible rfl)
  refine wpAnyH_take (i := 4) (v := ?_) rfl (by kernel_rfl) (by kernel_rfl) (by kernel_rfl) (fun _ _ _ h => h) (Or.inl ⟨by kernel_rfl, ?_⟩) (by assumption) ?_
  rotate_left
  · intro w hSw; (try dsimp only at hSw); go_simp; (try with_reducible rfl)
  refine wpAnyH_take (i := 5) (v := ?_) rfl (by kernel_rfl) (by kernel_rfl) (by kernel_rfl) (fun _ _ _ h => h) (Or.inl ⟨by kernel_rfl, ?_⟩) (by assumption) ?_
  rotate_left
  · intro w hSw; (try dsimp only at hSw); go_simp; (try with_reducible rfl)
  refine wpAnyH_ready (rs := [6]) (by kernel_rfl) (by simp) ?_
  refine AllReadyH.cons rfl (fun K hK => ?_) AllReadyH.nil
  go_simp
  refine (HK.out z0).mono ?_
  rintro x z1 ⟨rfl, b1⟩
  have HZ1 : Hid (Below wa.heap.size wa z1) := Lib.hid (HZ0.out.trans (b1.mono HZ0.out.size))
  clear b1 HZ0 hS0
  refine hK.out _ _ (HT.out _ HZ1.out) (fun hS0 => ?_)
  clear hK K
  refine wpAnyH_ready (rs := [7]) (by kernel_rfl) (by simp) ?_
  refine AllReadyH.cons rfl (fun K hK => ?_) AllReadyH.nil
  go_simp
  refine (HG.out z1 HZ1.out).mono ?_
  rintro x z2 ⟨rfl, rfl⟩
  clear hS0
  refine hK.out _ _ (HT.out _ HZ1.out) (fun hS0 => ?_)
  clear hK K
  refine wpAnyH_take (i := 8) (v := ?_) rfl (by kernel_rfl) (by kernel_rfl) (by kernel_rfl) (fun _ _ _ h => h) (Or.inl ⟨by kernel_rfl, ?_⟩) (by assumption) ?_
  rotate_left
  · intro w hSw; (try dsimp only at hSw); go_simp; (try with_reducible rfl)
  refine wpAnyH_take (i := 9) (v := ?_) rfl (by kernel_rfl) (by kernel_rfl) (by kernel_rfl) (fun _ _ _ h => h) (Or.inl ⟨by kernel_rfl, ?_⟩) (by assumption) ?_
  rotate_left
  · intro w hSw; (try dsimp only at hSw); go_simp; (try with_reducible rfl)
  refine wpAnyH_take (i := 10) (v := ?_) rfl (by kernel_rfl) (by kernel_rfl) (by kernel_rfl) (fun _ _ _ h => h) (Or.inl ⟨by kernel_rfl, ?_⟩) (by assumption) ?_
  rotate_left
  · intro w hSw; (try dsimp only at hSw); go_simp; (try with_reducible rfl)
  refine wpAnyH_take (i := 11) (v := ?_) rfl (by kernel_rfl) (by kernel_rfl) (by kernel_rfl) (fun _ _ _ h => h) (Or.inl ⟨by kernel_rfl, ?_⟩) (by assumption) ?_
  rotate_left
  · intro w hSw; (try dsimp only at hSw); go_simp; (try with_reducible rfl)
  refine wpAnyH_take (i := 12) (v := ?_) rfl (by kernel_rfl) (by kernel_rfl) (by kernel_rfl) (fun _ _ _ h => h) (Or.inl ⟨by kernel_rfl, ?_⟩) (by assumption) ?_
  rotate_left
  · intro w hSw; (try dsimp only at hSw); go_simp; (try with_reducible rfl)
  refine wpAnyH_done (by kernel_rfl) ?_ _
  obtain ⟨t0, t1, t2, t3⟩ := HT2.out _ HZ1.out
  cases b with
  | true =>
    go_wp2_with fail
    refine (HC.out _ HZ1.out).mono ?_
    rintro x z3 ⟨rfl, b1⟩
    have HZ3 := Lib.hid (HZ1.out.trans (b1.mono HZ1.out.size))
    clear b1 HZ1
    go_wp2
    go_ret
    exact ⟨rfl, HB.out.trans (HZ3.out.mono HB.out.size)⟩
  | false =>
    go_wp2
    go_ret
    exact ⟨rfl, HB.out.trans (HZ1.out.mono HB.out.size)⟩
set_option maxRecDepth 100000 in
set_option maxHeartbeats 1000000 in
theorem cn_settle1 (X Y : Nat) (f : Int) (q t : Nat) (d : ByteArray) (h : ChP w O B c) (hq : q < M64) (ht : t < M64) (hok : PkOk ⟨f, (q : Int), (t : Int), d⟩) (hL : LaidOk w) (hX : Box w X (.pointer (some ⟨B, 0, none⟩))) (hY : PkBox w Y ⟨f, (q : Int), (t : Int), d⟩) : Calls Tryz.prog 132 #[.pointer (some ⟨X, 0, none⟩), .pointer (some ⟨Y, 0, none⟩)] w fun x w' => x = .returned (.bool (standsB c q ⟨f, (q : Int), (t : Int), d⟩)) ∧ Below w.heap.size w w' := by
  have HC := Lib.hid (cn_stands f q t d h hq ht hok hL)
  have x1 := hX.2
  obtain ⟨-, y0, y1, y2, y3⟩ := hY
  simp only at y0 y1 y2 y3
  clear h hq ht hok hL hX
  generalize standsB c q ⟨f, (q : Int), (t : Int), d⟩ = b at *
  go_enter Tryz.func132, Tryz.ntmps132
  go_wp2_with fail
  refine HC.out.mono ?_
  rintro x w' ⟨rfl, hb⟩
  have HB := Lib.hid hb
  clear hb x1 y0 y1 y2 y3
  go_wp2
  go_ret
  exact ⟨rfl, HB.out⟩
end
def late1B (H : Nat) (t : Int) : Bool := decide (IntKind.u64.wrap (t - 1) ≤ (H : Int))
set_option maxRecDepth 100000 in
set_option maxHeartbeats 1000000 in
theorem cn_time1 (X Y H : Nat) (p : PkV) (w : World) (hX : Box w X (.int .u64 (H : Int))) (hY : PkBox w Y p) : Calls Tryz.prog 86 #[.pointer (some ⟨X, 0, none⟩), .pointer (some ⟨Y, 0, none⟩)] w fun x w' => x = .returned (.bool (late1B H p.t)) ∧ Below w.heap.size w w' := by
  have x1 := hX.2
  have y1 := hY.2.2.2.1
  unfold late1B
  clear hX hY
  generalize p.t = t at *
  obtain ⟨z, hz⟩ : ∃ z : Int, z = IntKind.u64.wrap (t - 1) := ⟨_, rfl⟩
  have m1 : IntKind.u64.wrap (t - 1) = z := hz.symm
  rw [← hz]
  clear hz
  go_enter Tryz.func86, Tryz.ntmps86
  go_wp2
  go_ret
  exact ⟨rfl, Below.refl _ _⟩
set_option maxRecDepth 100000 in
set_option maxHeartbeats 1000000 in
theorem cn_time2 (X Y : Nat) (f : Int) (q : Nat) (t : Int) (d root s : ByteArray) (w : World) (hq : q < M64) (hs : s.size ≤ 100000) (hL : LaidOk w) (hX : Box w X (.string s)) (hY : PkBox w Y ⟨f, (q : Int), t, d⟩) : Calls Tryz.prog 87 #[.string root, .pointer (some ⟨X, 0, none⟩), .pointer (some ⟨Y, 0, none⟩)] w fun x w' => x = .returned (.bool (lacksP root (keyT 114 q) (pfParse s).1)) ∧ Below w.heap.size w w' := by
  have HT := Lib.hid (fun (w' : World) (hb : Below w.heap.size w w') => And.intro (hX.below hb).2 (hY.below hb).2.2.1)
  have HK := Lib.hid (fun w' => pk_received q w' hq)
  have HP := Lib.hid (fun (key : ByteArray) (w' : World) (hb : Below w.heap.size w w') => pf_lacks root s key w' hs (hL.later hb))
  clear hX hY hq hs hL
  generalize keyT 114 q = key at *
  have HP := Lib.hid (HP.out key)
  generalize lacksP root key (pfParse s).1 = b at *
  simp only at HT
  go_enter Tryz.func87, Tryz.ntmps87
  go_wp2
  have HZ0 : Hid (Below w.heap.size w w.drew) := Lib.hid (Below.refl _ _).drew
  refine wp_region_held_drew (S := fun w' => w'.cell? ⟨X, 0, none⟩ = some (.string s) ∧ w'.cell? ⟨Y, 1, none⟩ = some (.int .u64 (q : Int))) (by kernel_rfl) (HT.out _ HZ0.out) (fun hS0 => ?_)
  generalize w.drew = z0 at *
  refine wpAnyH_take (i := 0) (v := ?_) rfl (by kernel_rfl) (by kernel_rfl) (by kernel_rfl) (fun _ _ _ h => h) (Or.inl ⟨by kernel_rfl, ?_⟩) (by assumption) ?_
  rotate_left
  · intro w hSw; (try dsimp only at hSw); go_simp; (try with_reducible rfl)
  refine wpAnyH_take (i := 1) (v := ?_) rfl (by kernel_rfl) (by kernel_rfl) (by kernel_rfl) (fun _ _ _ h => h) (Or.inl ⟨by kernel_rfl, ?_⟩) (by assumption) ?_
  rotate_left
  · intro w hSw; (try dsimp only at hSw); go_simp; (try with_reducible rfl)
  refine wpAnyH_take (i := 2) (v := ?_) rfl (by kernel_rfl) (by kernel_rfl) (by kernel_rfl) (fun _ _ _ h => h) (Or.inl ⟨by kernel_rfl, ?_⟩) (by assumption) ?_
  rotate_left
  · intro w hSw; (try dsimp only at hSw); go_simp; (try with_reducible rfl)
  refine wpAnyH_take (i := 3) (v := ?_) rfl (by kernel_rfl) (by kernel_rfl) (by kernel_rfl) (fun _ _ _ h => h) (Or.inl ⟨by kernel_rfl, ?_⟩) (by assumption) ?_
  rotate_left
  · intro w hSw; (try dsimp only at hSw); go_simp; (try with_reducible rfl)
  refine wpAnyH_ready (rs := [4]) (by kernel_rfl) (by simp) ?_
  refine AllReadyH.cons rfl (fun K hK => ?_) AllReadyH.nil
  go_simp
  refine (HK.out z0).mono ?_
  rintro x z1 ⟨rfl, b1⟩
  have HZ1 : Hid (Below w.heap.size w z1) := Lib.hid (HZ0.out.trans (b1.mono HZ0.out.size))
  clear b1 HZ0 hS0
  refine hK.out _ _ (HT.out _ HZ1.out) (fun hS0 => ?_)
  clear hK K
  refine wpAnyH_ready (rs := [5]) (by kernel_rfl) (by simp) ?_
  refine AllReadyH.cons rfl (fun K hK => ?_) AllReadyH.nil
  go_simp
  refine (HP.out z1 HZ1.out).mono ?_
  rintro x z3 ⟨rfl, b1⟩
  have HZ3 : Hid (Below w.heap.size w z3) := Lib.hid (HZ1.out.trans (b1.mono HZ1.out.size))
  clear b1 HZ1 hS0
  refine hK.out _ _ (HT.out _ HZ3.out) (fun hS0 => ?_)
  clear hK K
  refine wpAnyH_take (i := 6) (v := ?_) rfl (by kernel_rfl) (by kernel_rfl) (by kernel_rfl) (fun _ _ _ h => h) (Or.inl ⟨by kernel_rfl, ?_⟩) (by assumption) ?_
  rotate_left
  · intro w hSw; (try dsimp only at hSw); go_simp; (try with_reducible rfl)
  refine wpAnyH_done (by kernel_rfl) ?_ _
  go_wp2
  go_ret
  exact ⟨rfl, HZ3.out⟩
set_option maxRecDepth 100000 in
set_option maxHeartbeats 1000000 in
theorem cn_ack1 (X Y : Nat) (f : Int) (q t : Nat) (d root s : ByteArray) (w : World) (hq : q < M64) (ht : t < M64) (hs : s.size ≤ 100000) (hok : PkOk ⟨f, (q : Int), (t : Int), d⟩) (hL : LaidOk w) (hX : Box w X (.string s)) (hY : PkBox w Y ⟨f, (q : Int), (t : Int), d⟩) : Calls Tryz.prog 85 #[.string root, .pointer (some ⟨X, 0, none⟩), .pointer (some ⟨Y, 0, none⟩)] w fun x w' => x = .returned (.bool (hasP root (keyT 97 q) (ansD ⟨f, (q : Int), (t : Int), d⟩) (pfParse s).1)) ∧ Below w.heap.size w w' := by
  have HT := Lib.hid (fun (w' : World) (hb : Below w.heap.size w w') => And.intro (hX.below hb).2 (hY.below hb).2)
  have HK := Lib.hid (fun w' => pk_answered q w' hq)
  have HC := Lib.hid (fun (w' : World) (hb : Below w.heap.size w w') => pk_answer f (q : Int) (t : Int) d w' (hL.later hb) hok (by unfold M64 at hq; omega) (by unfold M64 at ht; omega))
  have HP := Lib.hid (fun (key value : ByteArray) (w' : World) (hb : Below w.heap.size w w') => pf_has root s key value w' hs (hL.later hb))
  clear hX hY hq ht hs hok hL
  unfold ansD
  generalize dgT (ansT ⟨f, (q : Int), (t : Int), d⟩) = val at *
  generalize keyT 97 q = key at *
  have HP := Lib.hid (HP.out key val)
  generalize hasP root key val (pfParse s).1 = b at *
  simp only at HT
  go_enter Tryz.func85, Tryz.ntmps85
  go_wp2
  have HZ0 : Hid (Below w.heap.size w w.drew) := Lib.hid (Below.refl _ _).drew
  refine wp_region_held_drew (S := fun w' => w'.cell? ⟨X, 0, none⟩ = some (.string s) ∧ w'.cell? ⟨Y, 0, none⟩ = some (.int .i64 f) ∧ w'.cell? ⟨Y, 1, none⟩ = some (.int .u64 (q : Int)) ∧ w'.cell? ⟨Y, 2, none⟩ = some (.int .u64 (t : Int)) ∧ w'.cell? ⟨Y, 3, none⟩ = some (.string d)) (by kernel_rfl) (HT.out _ HZ0.out) (fun hS0 => ?_)
  generalize w.drew = z0 at *
  refine wpAnyH_take (i := 0) (v := ?_) rfl (by kernel_rfl) (by kernel_rfl) (by kernel_rfl) (fun _ _ _ h => h) (Or.inl ⟨by kernel_rfl, ?_⟩) (by assumption) ?_
  rotate_left
  · intro w hSw; (try dsimp only at hSw); go_simp; (try with_reducible rfl)
  refine wpAnyH_take (i := 1) (v := ?_) rfl (by kernel_rfl) (by kernel_rfl) (by kernel_rfl) (fun _ _ _ h => h) (Or.inl ⟨by kernel_rfl, ?_⟩) (by assumption) ?_
  rotate_left
  · intro w hSw; (try dsimp only at hSw); go_simp; (try with_reducible rfl)
  refine wpAnyH_take (i := 2) (v := ?_) rfl (by kernel_rfl) (by kernel_rfl) (by kernel_rfl) (fun _ _ _ h => h) (Or.inl ⟨by kernel_rfl, ?_⟩) (by assumption) ?_
  rotate_left
  · intro w hSw; (try dsimp only at hSw); go_simp; (try with_reducible rfl)
  refine wpAnyH_take (i := 3) (v := ?_) rfl (by kernel_rfl) (by kernel_rfl) (by kernel_rfl) (fun _ _ _ h => h) (Or.inl ⟨by kernel_rfl, ?_⟩) (by assumption) ?_
  rotate_left
  · intro w hSw; (try dsimp only at hSw); go_simp; (try with_reducible rfl)
  refine wpAnyH_take (i := 5) (v := ?_) rfl (by kernel_rfl) (by kernel_rfl) (by kernel_rfl) (fun _ _ _ h => h) (Or.inl ⟨by kernel_rfl, ?_⟩) (by assumption) ?_
  rotate_left
  · intro w hSw; (try dsimp only at hSw); go_simp; (try with_reducible rfl)
  refine wpAnyH_ready (rs := [4]) (by kernel_rfl) (by simp) ?_
  refine AllReadyH.cons rfl (fun K hK => ?_) AllReadyH.nil
  go_simp
  refine (HK.out z0).mono ?_
  rintro x z1 ⟨rfl, b1⟩
  have HZ1 : Hid (Below w.heap.size w z1) := Lib.hid (HZ0.out.trans (b1.mono HZ0.out.size))
  clear b1 HZ0 hS0
  refine hK.out _ _ (HT.out _ HZ1.out) (fun hS0 => ?_)
  clear hK K
  refine wpAnyH_ready (rs := [6]) (by kernel_rfl) (by simp) ?_
  refine AllReadyH.cons rfl (fun K hK => ?_) AllReadyH.nil
  go_simp
  refine (HC.out z1 HZ1.out).mono ?_
  rintro x z2 ⟨rfl, b1⟩
  have HZ2 : Hid (Below w.heap.size w z2) := Lib.hid (HZ1.out.trans (b1.mono HZ1.out.size))
  clear b1 HZ1 hS0
  refine hK.out _ _ (HT.out _ HZ2.out) (fun hS0 => ?_)
  clear hK K
  refine wpAnyH_ready (rs := [7]) (by kernel_rfl) (by simp) ?_
  refine AllReadyH.cons rfl (fun K hK => ?_) AllReadyH.nil
  go_simp
  refine (HP.out z2 HZ2.out).mono ?_
  rintro x z3 ⟨rfl, b1⟩
  have HZ3 : Hid (Below w.heap.size w z3) := Lib.hid (HZ2.out.trans (b1.mono HZ2.out.size))
  clear b1 HZ2 hS0
  refine hK.out _ _ (HT.out _ HZ3.out) (fun hS0 => ?_)
  clear hK K
  refine wpAnyH_take (i := 8) (v := ?_) rfl (by kernel_rfl) (by kernel_rfl) (by kernel_rfl) (fun _ _ _ h => h) (Or.inl ⟨by kernel_rfl, ?_⟩) (by assumption) ?_
  rotate_left
  · intro w hSw; (try dsimp only at hSw); go_simp; (try with_reducible rfl)
  refine wpAnyH_done (by kernel_rfl) ?_ _
  go_wp2
  go_ret
  exact ⟨rfl, HZ3.out⟩
end Go.Proofs.YtbjchfcoacmaaaaGreatDoor
namespace Go.Proofs.YtbjchfcoacmaaaaGreatDoor
open Go.RowKit
set_option linter.unusedVariables false
theorem infoNs : (Tryz.prog.info? 28).map (fun i => (i.zero, i.size, i.bytes)) = some (some (.slice none 0 0), 1, 24) := by kernel_rfl
def comC (c : ChV) : ChV := if (comV c.st).2.2 = 0 then { c with st := (comV c.st).1, blks := c.blks ++ [c.built], built := [] } else c
theorem comV_no {s : StV} (h : (comV s).2.2 ≠ 0) : (comV s).1 = s ∧ (comV s).2.1 = 0 := by
  unfold comV at h ⊢
  by_cases h1 : s.height = 18446744073709551615
  · rw [if_pos h1]; exact ⟨rfl, rfl⟩
  · rw [if_neg h1] at h ⊢
    by_cases h2 : 4096 ≤ s.blks.length
    · rw [if_pos h2]; exact ⟨rfl, rfl⟩
    · rw [if_neg h2] at h; exact absurd rfl h
section
variable {w : World} {O : Nat → Prop} {B : Nat} {c : ChV}
theorem keeps_extC {O O' : Nat → Prop} {a b d : World} (h : Kq.Keeps O a b) (h2 : Kq.Keeps O' b d) (hO : ∀ k, O' k → Ext O a b k) : Kq.Keeps O a d :=
  ⟨h2.os.trans h.os, h2.tape.trans h.tape, h2.output.trans h.output, Nat.le_trans h.size h2.size, fun i hi hs => (h2.block i (Nat.lt_of_lt_of_le hi h.size) (fun e => by
    rcases hO i e with g | g
    · exact hs g
    · omega)).trans (h.block i hi hs)⟩
def CcB (w : World) (B : Nat) (vb vn : Value) : Prop := w.cell? ⟨B, 5, none⟩ = some vb ∧ w.cell? ⟨B, 6, none⟩ = some vn
set_option maxRecDepth 100000 in
set_option maxHeartbeats 2000000 in
theorem cn_com (h : ChP w O B c) (hc : ChOk c) (hbl : c.blks.length ≤ 4096) : Calls Tryz.prog 22 #[.pointer (some ⟨B, 0, none⟩)] w (StepC w O B (comR c.st) (comC c)) := by
  obtain ⟨i0, hi0, hz0, hz1, hz2⟩ := info_partsB infoNs
  obtain ⟨S, C, Os, Oc, On, vb, vn, Vs, h⟩ := h
  have c1 := h.c1
  have HH := Lib.hid (st_com w Os S c.st h.st hc.st)
  have HOL := Lib.hid h.lt
  have HS : Hid (∀ w', StP w' (Ext Os w w') S (comV c.st).1 → Kq.Keeps Os w w' → ChS w' (Ext O w w') B S C (Ext Os w w') Oc On vb vn Vs { c with st := (comV c.st).1 } ∧ Kq.Keeps O w w') := Lib.hid (fun w' g1 g2 => ⟨h.setS g1 g2, g2.mono (fun k _ hk => (h.sub k (Or.inl hk)).1)⟩)
  have HCR : Hid (comR c.st = .tuple #[.int .u64 ((comV c.st).2.1 : Int), .int .i64 (comV c.st).2.2]) := Lib.hid rfl
  have HCO : Hid ((comV c.st).2.2 = 0 → comC c = { c with st := (comV c.st).1, blks := c.blks ++ [c.built], built := [] }) := Lib.hid (fun e => by unfold comC; rw [if_pos e])
  have HCN : Hid ((comV c.st).2.2 ≠ 0 → comC c = { c with st := (comV c.st).1 } ∧ ((comV c.st).2.1 : Int) = 0) := Lib.hid (fun e => by
    obtain ⟨e1, e2⟩ := comV_no e
    unfold comC; rw [if_neg e, e1, e2]; exact ⟨rfl, rfl⟩)
  have HLN : Hid (Vs.length ≤ 4096) := Lib.hid (by rw [h.ns.len]; exact hbl)
  obtain ⟨A, q, cap, hvb⟩ := Kq.own_shape h.ns.own
  obtain ⟨A', q', cap', hvn⟩ := Kq.own_shape h.ns.now
  clear h hc hbl
  rw [HCR.out] at HH ⊢
  generalize comC c = c' at *
  generalize (comV c.st).1 = s' at *
  generalize ((comV c.st).2.1 : Int) = hgt at *
  clear HCR
  generalize (comV c.st).2.2 = er at *
  by_cases e0 : er = 0
  · subst e0
    have e1 : ((0 : Int) != 0) = false := rfl
    go_enter Tryz.func22, Tryz.ntmps22
    go_wp2_with fail
    refine HH.out.mono ?_
    rintro x w1 ⟨rfl, g1, g2⟩
    have H1 := Lib.hid (HS.out w1 g1 g2)
    clear g1 g2 c1 HH HS
    subst hvb hvn
    go_wp2
    have HD0 : Hid (ChS w1.drew (Ext O w w1) B S C (Ext Os w w1) Oc On (.slice A q cap) (.slice A' q' cap') Vs { c with st := s' } ∧ Kq.Keeps O w w1.drew) := Lib.hid ⟨H1.out.1.below (Below.refl _ _).drew, H1.out.2.drew⟩
    obtain ⟨wd, hwd⟩ : ∃ z, z = w1.drew := ⟨_, rfl⟩
    refine Kq.wp_region_T 16 (fun cur => CcB cur B (.slice A q cap) (.slice A' q' cap')) (by kernel_rfl) ⟨HD0.out.1.c5, HD0.out.1.c6⟩ (fun hS0 => ?_)
    rw [← hwd] at hS0 HD0 ⊢
    clear hwd
    unfold CcB at hS0
    dsimp only [CcB]
    refine Kq.wpAnyT_take (i := 0) (v := ?_) rfl rfl (by kernel_rfl) (by kernel_rfl) (by kernel_rfl) (by kernel_rfl) (fun _ _ _ h => h) (Or.inl ⟨by kernel_rfl, ?_⟩) (by assumption) ?_
    rotate_left
    · intro w hSw; (try dsimp only at hSw); go_simp; (try with_reducible rfl)
    refine Kq.wpAnyT_take (i := 1) (v := ?_) rfl rfl (by kernel_rfl) (by kernel_rfl) (by kernel_rfl) (by kernel_rfl) (fun _ _ _ h => h) (Or.inl ⟨by kernel_rfl, ?_⟩) (by assumption) ?_
    rotate_left
    · intro w hSw; (try dsimp only at hSw); go_simp; (try with_reducible rfl)
    refine Kq.wpAnyT_take (i := 2) (v := ?_) rfl rfl (by kernel_rfl) (by kernel_rfl) (by kernel_rfl) (by kernel_rfl) (fun _ _ _ h => h) (Or.inl ⟨by kernel_rfl, ?_⟩) (by assumption) ?_
    rotate_left
    · intro w hSw; (try dsimp only at hSw); go_simp; (try with_reducible rfl)
    refine Kq.wpAnyT_take (i := 3) (v := ?_) rfl rfl (by kernel_rfl) (by kernel_rfl) (by kernel_rfl) (by kernel_rfl) (fun _ _ _ h => h) (Or.inl ⟨by kernel_rfl, ?_⟩) (by assumption) ?_
    rotate_left
    · intro w hSw; (try dsimp only at hSw); go_simp; (try with_reducible rfl)
    refine Kq.wpAnyT_take (i := 4) (v := ?_) rfl rfl (by kernel_rfl) (by kernel_rfl) (by kernel_rfl) (by kernel_rfl) (fun _ _ _ h => h) (Or.inl ⟨by kernel_rfl, ?_⟩) (by assumption) ?_
    rotate_left
    · intro w hSw; (try dsimp only at hSw); go_simp; (try with_reducible rfl)
    refine Kq.wpAnyT_take (i := 5) (v := ?_) rfl rfl (by kernel_rfl) (by kernel_rfl) (by kernel_rfl) (by kernel_rfl) (fun _ _ _ h => h) (Or.inl ⟨by kernel_rfl, ?_⟩) (by assumption) ?_
    rotate_left
    · intro w hSw; (try dsimp only at hSw); go_simp; (try with_reducible rfl)
    refine Kq.wpAnyT_take (i := 6) (v := ?_) rfl rfl (by kernel_rfl) (by kernel_rfl) (by kernel_rfl) (by kernel_rfl) (fun _ _ _ h => h) (Or.inl ⟨by kernel_rfl, ?_⟩) (by assumption) ?_
    rotate_left
    · intro w hSw; (try dsimp only at hSw); go_simp; (try with_reducible rfl)
    refine Kq.wpAnyT_take (i := 7) (v := ?_) rfl rfl (by kernel_rfl) (by kernel_rfl) (by kernel_rfl) (by kernel_rfl) (fun _ _ _ h => h) (Or.inl ⟨by kernel_rfl, ?_⟩) (by assumption) ?_
    rotate_left
    · intro w hSw; (try dsimp only at hSw); go_simp; (try with_reducible rfl)
    refine Kq.wpAnyT_take (i := 8) (v := ?_) rfl rfl (by kernel_rfl) (by kernel_rfl) (by kernel_rfl) (by kernel_rfl) (fun _ _ _ h => h) (Or.inl ⟨by kernel_rfl, ?_⟩) (by assumption) ?_
    rotate_left
    · intro w hSw; (try dsimp only at hSw); go_simp; (try with_reducible rfl)
    refine Kq.wpAnyT_take (i := 9) (v := ?_) rfl rfl (by kernel_rfl) (by kernel_rfl) (by kernel_rfl) (by kernel_rfl) (fun _ _ _ h => h) (Or.inl ⟨by kernel_rfl, ?_⟩) (by assumption) ?_
    rotate_left
    · intro w hSw; (try dsimp only at hSw); go_simp; (try with_reducible rfl)
    refine Kq.wpAnyT_take (i := 10) (v := ?_) rfl rfl (by kernel_rfl) (by kernel_rfl) (by kernel_rfl) (by kernel_rfl) (fun _ _ _ h => h) (Or.inl ⟨by kernel_rfl, ?_⟩) (by assumption) ?_
    rotate_left
    · intro w hSw; (try dsimp only at hSw); go_simp; (try with_reducible rfl)
    refine Kq.wpAnyT_one (i := 11) (by kernel_rfl) rfl (fun K hK => ?_)
    go_simp
    have bz := Kq.below_alloc wd (.cells #[.slice A' q' cap'] 28)
    have HSRC : Hid (Src Tryz.prog 1 80 (.slice (some ⟨wd.heap.size, 0, none⟩) 1 1) 1 [.slice A' q' cap'] (wd.alloc (.cells #[.slice A' q' cap'] 28))) := Lib.hid (Src.ofSlice _ Tryz.underlying80 ⟨wd.heap.size, 0, none⟩ 1 1 [.slice A' q' cap'] rfl (fun j u hj => by
      have : j = 0 := by
        have := (List.getElem?_eq_some_iff.1 hj).1
        simpa using this
      subst this
      rw [Kq.Elt.add_flat]
      have h1 := Kq.blk_cell (Kq.blk_new wd #[.slice A' q' cap'] 28 (0, 0)) 0
      simp only [Nat.add_zero] at h1 ⊢
      rw [h1]
      exact hj) (fun u hu => by rw [List.mem_singleton.1 hu]; rfl))
    have HD1 : Hid (ChS (wd.alloc (.cells #[.slice A' q' cap'] 28)) (Ext O w w1) B S C (Ext Os w w1) Oc On (.slice A q cap) (.slice A' q' cap') Vs { c with st := s' } ∧ Kq.Keeps O w (wd.alloc (.cells #[.slice A' q' cap'] 28)) ∧ wd.heap.size ≤ (wd.alloc (.cells #[.slice A' q' cap'] 28)).heap.size) := Lib.hid ⟨HD0.out.1.below bz, HD0.out.2.trans (Kq.Keeps.of_below bz (fun k h1 h2 => absurd h2 (Nat.not_lt.2 h1))), bz.size⟩
    clear bz hS0 HD0
    generalize wd.alloc (.cells #[.slice A' q' cap'] 28) = ze at *
    generalize wd.heap.size = zb at *
    refine hK.out _ _ ⟨HD1.out.1.c5, HD1.out.1.c6⟩ (fun hS0 => ?_)
    clear hK K
    refine Kq.wpAnyT_one (i := 12) (by kernel_rfl) rfl (fun K hK => ?_)
    rw [if_pos (by kernel_rfl)]
    refine Kq.wp_append_any _ (.tmp 23) (.tmp 29) 80 80 rfl 0 28 i0 (.slice none 0 0) 1 24 Tryz.underlying80 hi0 hz0 hz1 hz2 rfl (by decide) (.slice A q cap) Vs.length Vs (by kernel_rfl) HD1.out.1.ns.own (.slice (some ⟨zb, 0, none⟩) 1 1) 1 [.slice A' q' cap'] (by kernel_rfl) HSRC.out ?e1 ?e2 (Nat.zero_le _) ?_
    case e1 => have := HLN.out; unfold maxLen; omega
    case e2 => have := HLN.out; omega
    intro v' z3 hown3 hgrow hfresh
    obtain ⟨a', q3, cp', hv'⟩ := Kq.own_shape hown3
    subst hv'
    have hN := NsP.com HD1.out.1.ns (fun k hk => HD1.out.1.lt k (HD1.out.1.sub k (Or.inr (Or.inr hk))).1) (by rw [List.length_append]; exact hown3) hgrow hfresh
    have HD3 := Lib.hid (fun w2 h1 h2 => ChS.setN (w2 := w2) HD1.out.1 hN.1 hN.2 h1 h2)
    have HSZ : Hid (ze.heap.size ≤ z3.heap.size ∧ w.heap.size ≤ ze.heap.size) := Lib.hid ⟨hN.2.size, HD1.out.2.1.size⟩
    have HD4 : Hid (z3.heap[B]? = some (.cells #[.int .i64 (c.id : Int), .pointer (some ⟨S, 0, none⟩), .pointer (some ⟨C, 0, none⟩), .int .u64 (c.next : Int), .int .u64 (c.first : Int), .slice A q cap, .slice A' q' cap'] 84 (0, 0))) := Lib.hid (hN.2.blk HD1.out.1.blk (fun e => (HD1.out.1.sub B (Or.inr (Or.inr e))).2 rfl))
    clear hown3 hgrow hfresh HSRC hS0 hN
    refine hK.out _ _ ⟨Kq.blk_cell HD4.out 5, Kq.blk_cell HD4.out 6⟩ (fun hS0 => ?_)
    clear hK K
    have f5 := Kq.blk_free HD4.out 5
    have c5 := Kq.blk_cell HD4.out 5
    refine Kq.wpAnyT_one (i := 13) (by kernel_rfl) rfl (fun K hK => ?_)
    go_simp
    refine hK.out _ _ ⟨Kq.blk_cell HD4.out 5, Kq.blk_cell HD4.out 6⟩ (fun hS0 => ?_)
    clear hK K
    refine Kq.wpAnyT_one (i := 14) (by kernel_rfl) rfl (fun K hK => ?_)
    go_simp
    refine hK.out _ _ ⟨Kq.blk_cell HD4.out 5, Kq.blk_cell HD4.out 6⟩ (fun hS0 => ?_)
    clear hK K
    refine Kq.wpAnyT_take (i := 15) (v := ?_) rfl rfl (by kernel_rfl) (by kernel_rfl) (by kernel_rfl) (by kernel_rfl) (fun _ _ _ h => h) (Or.inl ⟨by kernel_rfl, ?_⟩) (by assumption) ?_
    rotate_left
    · intro w hSw; (try dsimp only at hSw); go_simp; (try with_reducible rfl)
    refine Kq.wpAnyT_last (by kernel_rfl) rfl (fun K hK => ?_)
    go_simp
    refine hK.out _ _ ?_
    clear hK K
    refine Kq.wpAnyT_done (by kernel_rfl) ?_ _
    have HD5 := Lib.hid (Kq.blk_set HD4.out 5 (.slice a' q3 cp'))
    have f6 := Kq.blk_free HD5.out 6
    have c6 := Kq.blk_cell HD5.out 6
    clear hS0 f5 c5
    go_wp2
    go_ret2
    obtain ⟨g1, g2⟩ := HD3.out _ (Kq.blk_set HD5.out 6 (.slice none 0 0)) (Kq.Keeps.trans (b := z3.setCell ⟨B, 5, none⟩ (.slice a' q3 cp')) (Kq.Keeps.setCell _ _ _ rfl) (Kq.Keeps.setCell _ _ _ rfl))
    have hsz : ((z3.setCell ⟨B, 5, none⟩ (.slice a' q3 cp')).setCell ⟨B, 6, none⟩ (.slice none 0 0)).heap.size = z3.heap.size := by simp [World.setCell]
    rw [HCO.out trivial]
    refine ⟨rfl, ⟨_, _, _, _, _, _, _, _, g1.widen (fun k hk => ?_) (fun k hk => ?_)⟩, keeps_extC HD1.out.2.1 g2 (fun k hk => ?_)⟩
    · have := HSZ.out
      rcases hk with h1 | h1
      · have h2 := HD1.out.1.lt k h1
        rcases h1 with h1 | h1
        · exact Or.inl h1
        · exact Or.inr ⟨h1.1, by omega⟩
      · exact Or.inr ⟨by omega, by omega⟩
    · have := HSZ.out
      rcases hk with h1 | h1
      · have := HOL.out k h1; omega
      · exact h1.2
    · have h2 := HD1.out.1.lt k hk
      rcases hk with h1 | h1
      · exact Or.inl h1
      · exact Or.inr ⟨h1.1, h2⟩
  · have e1 : (er != 0) = true := bne_iff_ne.2 e0
    have HE := Lib.hid (HCN.out e0)
    clear e0
    go_enter Tryz.func22, Tryz.ntmps22
    go_wp2_with fail
    refine HH.out.mono ?_
    rintro x w1 ⟨rfl, g1, g2⟩
    have H1 := Lib.hid (HS.out w1 g1 g2)
    clear g1 g2 c1 HH HS
    go_wp2
    go_ret2
    rw [HE.out.1, HE.out.2]
    exact ⟨rfl, ⟨_, _, _, _, _, _, _, _, H1.out.1⟩, H1.out.2⟩
end
end Go.Proofs.YtbjchfcoacmaaaaGreatDoor
namespace Go.Proofs.YtbjchfcoacmaaaaGreatDoor
open Go.RowKit
set_option linter.unusedVariables false
/-- what a log tells of these blocks, from an index on, at most so many: the notes, how many blocks further, the index behind -/
def logG : List (List NtV) → Nat → Nat → List NtV × Nat × Nat
  | [], i, k => ([], 0, i)
  | b :: bs, i, k =>
    if i + min (b.length - i) k < b.length ∨ bs = [] then ((b.drop i).take k, 0, i + min (b.length - i) k)
    else ((b.drop i).take k ++ (logG bs 0 (k - min (b.length - i) k)).1, (logG bs 0 (k - min (b.length - i) k)).2.1 + 1, (logG bs 0 (k - min (b.length - i) k)).2.2)
theorem logG_stop {b : List NtV} {bs : List (List NtV)} {i k : Nat} (h : i + min (b.length - i) k < b.length ∨ bs = []) : logG (b :: bs) i k = ((b.drop i).take k, 0, i + min (b.length - i) k) := if_pos h
theorem logG_on {b : List NtV} {bs : List (List NtV)} {i k : Nat} (h : ¬ (i + min (b.length - i) k < b.length ∨ bs = [])) : logG (b :: bs) i k = ((b.drop i).take k ++ (logG bs 0 (k - min (b.length - i) k)).1, (logG bs 0 (k - min (b.length - i) k)).2.1 + 1, (logG bs 0 (k - min (b.length - i) k)).2.2) := if_neg h
/-- how many notes stand ahead of a place -/
def posL (bs : List (List NtV)) (j i : Nat) : Nat := (bs.take j).flatten.length + i
/-- a place where a log may end: within a block, or at the end of the last one -/
def EndL (bs : List (List NtV)) (j i : Nat) : Prop := ∃ h : j < bs.length, i ≤ bs[j].length ∧ (i < bs[j].length ∨ j + 1 = bs.length)
theorem posL_succ (bs : List (List NtV)) (j : Nat) (h : j < bs.length) : (bs.take (j + 1)).flatten.length = (bs.take j).flatten.length + bs[j].length := by
  rw [List.take_succ_eq_append_getElem h, List.flatten_append, List.length_append]
  simp
theorem posL_mono (bs : List (List NtV)) (j j' : Nat) (h : j ≤ j') : (bs.take j).flatten.length ≤ (bs.take j').flatten.length := by
  obtain ⟨d, rfl⟩ := Nat.le.dest h
  induction d with
  | zero => exact Nat.le_refl _
  | succ d ih =>
    refine Nat.le_trans (ih (by omega)) ?_
    by_cases h1 : j + d < bs.length
    · rw [show j + (d + 1) = j + d + 1 from rfl, posL_succ bs _ h1]; omega
    · rw [List.take_of_length_le (by omega), List.take_of_length_le (by omega)]; exact Nat.le_refl _
theorem EndL.lt {bs : List (List NtV)} {j i j' i' : Nat} (h : EndL bs j i) (h' : EndL bs j' i') (hlt : j < j') : posL bs j i < posL bs j' i' := by
  obtain ⟨h1, h2, h3⟩ := h
  obtain ⟨g1, g2, g3⟩ := h'
  have h4 := posL_mono bs (j + 1) j' hlt
  rw [posL_succ bs j h1] at h4
  unfold posL
  omega
theorem EndL.one {bs : List (List NtV)} {j i j' i' : Nat} (h : EndL bs j i) (h' : EndL bs j' i') (hp : posL bs j i = posL bs j' i') : j = j' ∧ i = i' := by
  rcases Nat.lt_trichotomy j j' with hlt | rfl | hlt
  · have := h.lt h' hlt; omega
  · unfold posL at hp; exact ⟨rfl, by omega⟩
  · have := h'.lt h hlt; omega
/-- what a log tells, told of all notes in a row -/
theorem logG_all : ∀ (bs : List (List NtV)) (i k : Nat) (hb : bs ≠ []), i ≤ (bs.head hb).length →
    (logG bs i k).1 = (bs.flatten.drop i).take k ∧ EndL bs (logG bs i k).2.1 (logG bs i k).2.2 ∧ posL bs (logG bs i k).2.1 (logG bs i k).2.2 = i + min (bs.flatten.length - i) k
  | [], _, _, hb, _ => absurd rfl hb
  | b :: bs, i, k, _, hi => by
    simp only [List.head_cons] at hi
    by_cases h : i + min (b.length - i) k < b.length ∨ bs = []
    · rw [logG_stop h]
      refine ⟨?_, ⟨by simp, ?_, ?_⟩, ?_⟩
      · show (b.drop i).take k = _
        rw [List.flatten_cons, List.drop_append]
        rcases h with h | rfl
        · rw [List.take_append_of_le_length (by rw [List.length_drop]; omega)]
        · simp
      · show i + min (b.length - i) k ≤ ((b :: bs)[0]).length
        rw [List.getElem_cons_zero]; omega
      · show i + min (b.length - i) k < ((b :: bs)[0]).length ∨ 0 + 1 = (b :: bs).length
        rw [List.getElem_cons_zero]
        rcases h with h | rfl
        · exact Or.inl h
        · exact Or.inr rfl
      · show ((b :: bs).take 0).flatten.length + (i + min (b.length - i) k) = _
        rw [List.flatten_cons, List.length_append]
        simp only [List.take_zero, List.flatten_nil, List.length_nil]
        rcases h with h | rfl
        · omega
        · simp
    · have hne : bs ≠ [] := fun e => h (Or.inr e)
      have hk : b.length - i ≤ k := by
        have : ¬ (i + min (b.length - i) k < b.length) := fun e => h (Or.inl e)
        omega
      have hm : min (b.length - i) k = b.length - i := by omega
      obtain ⟨e1, ⟨g1, g2, g3⟩, e3⟩ := logG_all bs 0 (k - (b.length - i)) hne (Nat.zero_le _)
      rw [logG_on h, hm]
      refine ⟨?_, ⟨by simp only [List.length_cons]; omega, ?_, ?_⟩, ?_⟩
      · show (b.drop i).take k ++ (logG bs 0 (k - (b.length - i))).1 = _
        rw [e1, List.flatten_cons, List.drop_append, List.take_append, List.length_drop, show i - b.length = 0 by omega]
      · show (logG bs 0 (k - (b.length - i))).2.2 ≤ ((b :: bs)[(logG bs 0 (k - (b.length - i))).2.1 + 1]'(by simp only [List.length_cons]; omega)).length
        rw [List.getElem_cons_succ]; exact g2
      · show (logG bs 0 (k - (b.length - i))).2.2 < ((b :: bs)[(logG bs 0 (k - (b.length - i))).2.1 + 1]'(by simp only [List.length_cons]; omega)).length ∨ (logG bs 0 (k - (b.length - i))).2.1 + 1 + 1 = (b :: bs).length
        rw [List.getElem_cons_succ]
        rcases g3 with g3 | g3
        · exact Or.inl g3
        · exact Or.inr (by rw [List.length_cons]; omega)
      · show ((b :: bs).take ((logG bs 0 (k - (b.length - i))).2.1 + 1)).flatten.length + (logG bs 0 (k - (b.length - i))).2.2 = _
        unfold posL at e3
        rw [List.take_succ_cons, List.flatten_cons, List.length_append, List.flatten_cons, List.length_append]
        omega
/-- from any place of a chain's on -/
theorem logG_at (bs : List (List NtV)) (j i k : Nat) (hj : j < bs.length) (hi : i ≤ bs[j].length) :
    (logG (bs.drop j) i k).1 = (bs.flatten.drop (posL bs j i)).take k ∧ EndL bs (j + (logG (bs.drop j) i k).2.1) (logG (bs.drop j) i k).2.2 ∧ posL bs (j + (logG (bs.drop j) i k).2.1) (logG (bs.drop j) i k).2.2 = posL bs j i + min (bs.flatten.length - posL bs j i) k := by
  have hne : bs.drop j ≠ [] := fun e => by have := congrArg List.length e; simp at this; omega
  have hh : (bs.drop j).head hne = bs[j] := by simp [List.head_drop]
  obtain ⟨e1, ⟨g1, g2, g3⟩, e3⟩ := logG_all (bs.drop j) i k hne (by rw [hh]; exact hi)
  have hf : bs.flatten = (bs.take j).flatten ++ (bs.drop j).flatten := by rw [← List.flatten_append, List.take_append_drop]
  have hfl : bs.flatten.length = (bs.take j).flatten.length + (bs.drop j).flatten.length := by rw [hf, List.length_append]
  have hd : bs.flatten.drop (posL bs j i) = (bs.drop j).flatten.drop i := by
    unfold posL
    conv => lhs; rw [hf]
    rw [List.drop_append, List.drop_of_length_le (by omega), List.nil_append]
    congr 1
    omega
  generalize (logG (bs.drop j) i k).2.1 = a at *
  generalize (logG (bs.drop j) i k).2.2 = b at *
  rw [List.length_drop] at g1 g3
  rw [List.getElem_drop] at g2 g3
  refine ⟨by rw [hd]; exact e1, ⟨by omega, g2, ?_⟩, ?_⟩
  · rcases g3 with g3 | g3
    · exact Or.inl g3
    · exact Or.inr (by omega)
  · unfold posL at e3 ⊢
    have : (bs.take (j + a)).flatten.length = (bs.take j).flatten.length + ((bs.drop j).take a).flatten.length := by
      rw [List.take_add, List.flatten_append, List.length_append]
    omega
/-- a log read on from a place never goes back -/
theorem logG_same (bs : List (List NtV)) (i k : Nat) (hb : bs ≠ []) (h0 : (logG bs i k).2.1 = 0) (hi : i ≤ (bs.head hb).length) : (logG bs i k).2.2 = i + (logG bs i k).1.length := by
  obtain ⟨e1, e2, e3⟩ := logG_all bs i k hb hi
  rw [h0] at e3
  unfold posL at e3
  simp only [List.take_zero, List.flatten_nil, List.length_nil] at e3
  rw [e1, List.length_take, List.length_drop]
  omega
theorem logG_len (bs : List (List NtV)) (i k : Nat) (hb : bs ≠ []) (hi : i ≤ (bs.head hb).length) : (logG bs i k).1.length ≤ k := by
  rw [(logG_all bs i k hb hi).1, List.length_take]; omega
theorem flat_mem {l : List NtV} {ls : List (List NtV)} (h : l ∈ ls) : l.length ≤ ls.flatten.length := by
  induction ls with
  | nil => cases h
  | cons a ls ih =>
    rw [List.flatten_cons, List.length_append]
    rcases List.mem_cons.1 h with rfl | h
    · omega
    · have := ih h; omega
end Go.Proofs.YtbjchfcoacmaaaaGreatDoor
namespace Go.Proofs.YtbjchfcoacmaaaaGreatDoor
open Go.RowKit
set_option linter.unusedVariables false
section
variable {w : World} {O : Nat → Prop} {B : Nat} {c : ChV}
set_option maxRecDepth 100000 in
set_option maxHeartbeats 1000000 in
theorem cn_noted (i : Nat) (h : ChP w O B c) (hi : i < c.blks.length) (hH : c.first + i < 18446744073709551616) (hl : c.blks.length ≤ 100000) : Calls Tryz.prog 31 #[.pointer (some ⟨B, 0, none⟩), .int .u64 ((c.first + i : Nat) : Int)] w fun x w' => ∃ A cap, x = .returned (.slice A c.blks[i].length cap) ∧ c.blks[i].length ≤ cap ∧ EnAt NtV.nc w' A c.blks[i] ∧ (∀ b off, A = some ⟨b, off, none⟩ → O b) ∧ Below w.heap.size w w' := by
  obtain ⟨S, C, Os, Oc, On, vb, vn, Vs, h⟩ := h
  have c4 := h.c4
  have c5 := h.c5
  have hiV : i < Vs.length := by rw [h.ns.len]; exact hi
  obtain ⟨A, cap, e, hcap, ha, hob⟩ := h.ns.at_ i hiV hi
  have hO := h.sub
  rcases h.ns.own.2 with ⟨e2, h0⟩ | ⟨g, cp, cur, rfl, -, hb, hc, -, hsz, ht⟩
  · exact absurd h0 (by omega)
  have ci : w.cell? ⟨g, i, none⟩ = some (.slice A c.blks[i].length cap) := by
    rw [Kq.blk_cell hb i, ← e]
    have h1 : (cur.toList.take (Vs.length * 1))[i]? = Vs[i]? := by rw [ht]
    rw [List.getElem?_take, if_pos (by omega), Array.getElem?_toList] at h1
    rw [h1, List.getElem?_eq_getElem hiV]
  have m1 : IntKind.u64.wrap (((c.first + i : Nat) : Int) - (c.first : Int)) = (i : Int) := by rw [IntWalk.u64_in _ (by omega)]; omega
  have m2 : (i : Int) < (Vs.length : Int) := by omega
  have HR := Lib.hid (And.intro hcap (And.intro ha (fun b off e => (hO b (Or.inr (Or.inr (hob b off e).1))).1)))
  generalize hz : ((c.first + i : Nat) : Int) = z at *
  generalize c.blks[i] = bl at *
  clear h hi hH hl hcap ha hob hO e hb hc hsz ht hz
  go_enter Tryz.func31, Tryz.ntmps31
  go_wp2
  go_quiet (fail)
  generalize hwq : w.drewN nq = wq
  have HQ : Hid (Below w.heap.size w wq) := Lib.hid (by rw [← hwq]; exact below_drewN (Below.refl _ _) nq)
  clear hwq
  go_wp2
  go_ret
  exact ⟨A, cap, rfl, HR.out.1, HR.out.2.1.below HQ.out, HR.out.2.2, HQ.out⟩
end
end Go.Proofs.YtbjchfcoacmaaaaGreatDoor
