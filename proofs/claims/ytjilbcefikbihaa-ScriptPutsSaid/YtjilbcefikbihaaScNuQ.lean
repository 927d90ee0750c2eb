/- Merged: ScSm, ScNu. Package script's small: a form of one field. Condition: the field's closure tells its cell. Package script's number: a form of one field. Condition: the field's closure tells its cell. -/
import Derived.WalkSpells
import Derived.Outline
import Derived.Deep.RegionHeld
import Derived.Test.YtjilbcefikbihaaHeldLastQ
import Derived.Test.YtjilbcefikbihaaScAQ
import Derived.Test.YtjilbcefikbihaaScFiQ
namespace Go.Proofs.Ytjilbcefikbihaa
open Go.RowKit
set_option linter.unusedVariables false
variable {i : Nat} {g : SaV → Int} {s0 : SaV → Int → SaV}
set_option maxRecDepth 100000 in
set_option maxHeartbeats 1600000 in
theorem sm_w (hL : LensI i g s0) (X : Nat) (f : Value) (hf : FieldIs f i) (w1 : World) (hX : w1.cell? ⟨X, 0, none⟩ = some f) (base B : Nat) (e : Int) (v : Value) (l : List Nat) (A : Nat) (a : SaV) (sv : Value) (T : TypeId) (tl : List Value)
    (hW : Wr w1 base B e v l) (hA : ActAt w1 A a sv T tl) (hwf : a.wf) (hl : l.length + (smF g s0).cap ≤ 1000000) :
    Calls Try.prog 59 #[.pointer (some ⟨B, 0, none⟩), .pointer (some ⟨A, 0, none⟩), .pointer (some ⟨X, 0, none⟩)] w1 (WrStep w1 base B v e l ((smF g s0).ok a) ((smF g s0).enc a) (smF g s0).cap) := by
  obtain ⟨m, ⟨rfl, hrun⟩, hcall⟩ := hf
  have ca : w1.cell? ⟨A, i, none⟩ = some (.int .i64 (g a)) := (Kq.blk_cell hA.blk i).trans (by rw [List.getElem?_toArray]; exact hL.get a sv tl)
  have HC := Lib.hid hcall
  have HP := Lib.hid (wr_byte_step base B e v l (g a) w1 hW (by simp only [smF] at hl; omega))
  clear hcall hW hA hL hl hwf
  go_enter Try.func59, Try.ntmps59
  go_wp2_with fail
  refine (HC.out A w1).mono ?_
  rintro x w2 ⟨rfl, e2⟩
  subst e2
  clear hrun
  obtain ⟨ga, hga⟩ : ∃ z, z = g a := ⟨_, rfl⟩
  have HGA := Lib.hid hga
  rw [← hga] at ca HP
  clear hga
  go_wp2_with fail
  refine HP.out.mono ?_
  intro x w3 hp
  have hx := hp.choose_spec.choose_spec.1.1
  subst hx
  have HQ := Lib.hid hp
  clear hp
  go_wp2
  go_end0
  have hq := HQ.out
  rw [HGA.out] at hq
  exact hq
set_option maxRecDepth 100000 in
set_option maxHeartbeats 1600000 in
theorem sm_r (hL : LensI i g s0) (X : Nat) (f : Value) (hf : FieldIs f i) (w1 : World) (hX : w1.cell? ⟨X, 0, none⟩ = some f) (base B : Nat) (e : Int) (s : ByteArray) (A : Nat) (a : SaV) (sv : Value) (T : TypeId) (tl : List Value)
    (hR : Rd w1 B e s) (hA : ActAt w1 A a sv T tl) (hO : w1.ownsRow base 87 2 sv a.ws.length (wcells a.ws)) (hAB : A ≠ B) (hsB : sv.ownBlock ≠ some B) (hsb : sBlk sv ≠ some B) (hs : s.size ≤ 100000000) :
    Calls Try.prog 60 #[.pointer (some ⟨B, 0, none⟩), .pointer (some ⟨A, 0, none⟩), .pointer (some ⟨X, 0, none⟩)] w1 (ReadPost w1 base B A sv T tl ((smF g s0).get a e s)) := by
  obtain ⟨m, ⟨rfl, hrun⟩, hcall⟩ := hf
  have HC := Lib.hid hcall
  have HRd := Lib.hid (rd_byte B e s w1 hR (by unfold maxLen; omega))
  have HA := Lib.hid hA
  have HO := Lib.hid hO
  have HL := Lib.hid hL
  have HN := Lib.hid (And.intro hAB (And.intro hsB hsb))
  clear hcall hR hA hO hL hAB hsB hs hsb
  go_enter Try.func60, Try.ntmps60
  go_wp2_with fail
  refine (HC.out A w1).mono ?_
  rintro x w2 ⟨rfl, e2⟩
  subst e2
  clear hrun
  go_wp2_with fail
  refine HRd.out.mono ?_
  rintro x w3 ⟨hx, R3, K3⟩
  have hA3 := HA.out.keeps K3 HN.out.1 (fun b hb hB => HN.out.2.2 (by rw [hb, hB]))
  have f3 : w3.frozen? ⟨A, i, none⟩ = false := Kq.blk_free hA3.blk i
  have c3 : w3.cell? ⟨A, i, none⟩ = some (.int .i64 (g a)) := (Kq.blk_cell hA3.blk i).trans (by rw [List.getElem?_toArray]; exact HL.out.get a sv tl)
  have hx' : x = .returned (.int .i64 ((byteF e s).1)) := hx
  have R3' : Rd w3 B (byteF e s).2.1 (byteF e s).2.2 := R3
  have HR := Lib.hid R3'
  have HK := Lib.hid K3
  have HA3 := Lib.hid hA3
  obtain ⟨y, hy⟩ : ∃ y, y = (byteF e s).1 := ⟨_, rfl⟩
  have HY := Lib.hid hy
  rw [← hy] at hx'
  subst hx'
  clear hx R3 R3' K3 hA3 hy
  go_wp2
  go_end0


  exact read_set HR.out HA3.out HK.out HO.out HN.out.1 HN.out.2.1 ((HL.out.set a y sv tl).trans (by rw [HY.out])) (HL.out.ws a _)
set_option maxRecDepth 100000 in
set_option maxHeartbeats 1600000 in
theorem sm_k (hL : LensI i g s0) (X : Nat) (f : Value) (hf : FieldIs f i) (w1 : World) (hX : w1.cell? ⟨X, 0, none⟩ = some f) (A : Nat) (a : SaV) (sv : Value) (T : TypeId) (tl : List Value) (B : Nat) (b : SaV) (sv2 : Value) (T2 : TypeId) (tl2 : List Value)
    (hA : ActAt w1 A a sv T tl) (hB : ActAt w1 B b sv2 T2 tl2) (hAB : A ≠ B) (hXB : X ≠ B) :
    Calls Try.prog 61 #[.pointer (some ⟨A, 0, none⟩), .pointer (some ⟨B, 0, none⟩), .pointer (some ⟨X, 0, none⟩)] w1 fun x w' => x = .returned (.tuple #[]) ∧ Kq.Keeps (· = B) w1 w' ∧ ∃ sv3, ActAt w' B ((smF g s0).keep a b) sv3 T2 tl2 ∧ (sv3 = sv ∨ sv3 = sv2) := by
  obtain ⟨m, ⟨rfl, hrun⟩, hcall⟩ := hf
  have ca : w1.cell? ⟨A, i, none⟩ = some (.int .i64 (g a)) := (Kq.blk_cell hA.blk i).trans (by rw [List.getElem?_toArray]; exact hL.get a sv tl)
  have fb : w1.frozen? ⟨B, i, none⟩ = false := Kq.blk_free hB.blk i
  have cb : w1.cell? ⟨B, i, none⟩ = some (.int .i64 (g b)) := (Kq.blk_cell hB.blk i).trans (by rw [List.getElem?_toArray]; exact hL.get b sv2 tl2)
  have HC := Lib.hid hcall
  have hB' : ActAt w1.drew B b sv2 T2 tl2 := ⟨hB.blk, hB.ws.keeps (S := fun _ => False) ⟨rfl, rfl, rfl, Nat.le_refl _, fun _ _ _ => rfl⟩ (fun _ _ => id), hB.ne, hB.sl⟩
  have HE : Hid (∀ w', w1.drew.setCell ⟨B, i, none⟩ (.int .i64 (g a)) = w' → Kq.Keeps (· = B) w1 w' ∧ ∃ sv3, ActAt w' B ((smF g s0).keep a b) sv3 T2 tl2 ∧ (sv3 = sv ∨ sv3 = sv2)) := Lib.hid (fun w' e => by
    subst e
    exact ⟨(show Kq.Keeps (· = B) w1 w1.drew from ⟨rfl, rfl, rfl, Nat.le_refl _, fun _ _ _ => rfl⟩).trans (Kq.Keeps.setCell _ _ _ rfl), sv2, hB'.set (hL.set b (g a) sv2 tl2) (hL.ws b _), Or.inr rfl⟩)
  have HN : Hid (∀ u, (w1.drew.setCell ⟨B, i, none⟩ u).cell? ⟨X, 0, none⟩ = some (Value.func (.func m) #[] #[]) ∧ (w1.drew.setCell ⟨B, i, none⟩ u).cell? ⟨A, i, none⟩ = some (.int .i64 (g a))) := Lib.hid (fun u => by
    have k : Kq.Keeps (· = B) w1.drew (w1.drew.setCell ⟨B, i, none⟩ u) := Kq.Keeps.setCell _ _ _ rfl
    have hc : ∀ k0 j, k0 ≠ B → (w1.drew.setCell ⟨B, i, none⟩ u).cell? ⟨k0, j, none⟩ = w1.cell? ⟨k0, j, none⟩ := fun k0 j hk => by
      show World.cell? _ _ = w1.drew.cell? ⟨k0, j, none⟩
      unfold World.cell?
      rw [Below.heap_setCell _ _ _ _ (fun e => hk e)]
    exact ⟨(hc X 0 hXB).trans hX, (hc A i hAB).trans ca⟩)
  clear hcall hA hB hB' hL hAB hXB
  obtain ⟨ga, hga⟩ : ∃ z, z = g a := ⟨_, rfl⟩
  rw [← hga] at ca HE HN
  clear hga
  go_enter Try.func61, Try.ntmps61
  go_wp2
  refine wp_region_held_drew (S := fun w' => w'.cell? ⟨X, 0, none⟩ = some (Value.func (.func m) #[] #[]) ∧ w'.cell? ⟨A, i, none⟩ = some (.int .i64 (ga))) (by kernel_rfl) ⟨hX, ca⟩ (fun hS0 => ?_)
  have c1 : w1.drew.cell? ⟨X, 0, none⟩ = some (Value.func (.func m) #[] #[]) := hX
  have c2 : w1.drew.cell? ⟨A, i, none⟩ = some (.int .i64 (ga)) := ca
  have c3 : w1.drew.frozen? ⟨B, i, none⟩ = false := fb
  have c4 : w1.drew.cell? ⟨B, i, none⟩ = some (.int .i64 (g b)) := cb
  clear hX ca fb cb
  generalize w1.drew = z0 at *
  refine wpAnyH_take (i := 0) (v := ?_) rfl (by kernel_rfl) (by kernel_rfl) (by kernel_rfl) (fun _ _ _ h => h) (Or.inl ⟨by kernel_rfl, ?_⟩) (by assumption) ?_
  rotate_left
  · intro w hSw; (try dsimp only at hSw); go_simp; (try with_reducible rfl)
  refine wpAnyH_take (i := 1) (v := ?_) rfl (by kernel_rfl) (by kernel_rfl) (by kernel_rfl) (fun _ _ _ h => h) (Or.inl ⟨by kernel_rfl, ?_⟩) (by assumption) ?_
  rotate_left
  · intro w hSw; (try dsimp only at hSw); go_simp; (try with_reducible rfl)
  refine wpAnyH_take (i := 3) (v := ?_) rfl (by kernel_rfl) (by kernel_rfl) (by kernel_rfl) (fun _ _ _ h => h) (Or.inl ⟨by kernel_rfl, ?_⟩) (by assumption) ?_
  rotate_left
  · intro w hSw; (try dsimp only at hSw); go_simp; (try with_reducible rfl)
  refine wpAnyH_take (i := 4) (v := ?_) rfl (by kernel_rfl) (by kernel_rfl) (by kernel_rfl) (fun _ _ _ h => h) (Or.inl ⟨by kernel_rfl, ?_⟩) (by assumption) ?_
  rotate_left
  · intro w hSw; (try dsimp only at hSw); go_simp; (try with_reducible rfl)
  refine wpAnyH_ready (rs := [2]) (by kernel_rfl) (by simp) ?_
  refine AllReadyH.cons rfl (fun K hK => ?_) AllReadyH.nil
  go_simp
  refine (HC.out B z0).mono ?_
  rintro x z1 ⟨rfl, e1⟩
  subst e1
  refine hK.out _ _ hS0 (fun hS0 => ?_)
  clear hK K
  refine wpAnyH_ready (rs := [5]) (by kernel_rfl) (by simp) ?_
  refine AllReadyH.cons rfl (fun K hK => ?_) AllReadyH.nil
  go_simp
  refine (HC.out A z0).mono ?_
  rintro x z1 ⟨rfl, e1⟩
  subst e1
  refine hK.out _ _ hS0 (fun hS0 => ?_)
  clear hK K
  refine wpAnyH_take (i := 6) (v := ?_) rfl (by kernel_rfl) (by kernel_rfl) (by kernel_rfl) (fun _ _ _ h => h) (Or.inl ⟨by kernel_rfl, ?_⟩) (by assumption) ?_
  rotate_left
  · intro w hSw; (try dsimp only at hSw); go_simp; (try with_reducible rfl)
  refine wpAnyH_take (i := 7) (v := ?_) rfl (by kernel_rfl) (by kernel_rfl) (by kernel_rfl) (fun _ _ _ h => h) (Or.inl ⟨by kernel_rfl, ?_⟩) (by assumption) ?_
  rotate_left
  · intro w hSw; (try dsimp only at hSw); go_simp; (try with_reducible rfl)
  refine wpAnyH_take (i := 8) (v := ?_) rfl (by kernel_rfl) (by kernel_rfl) (by kernel_rfl) (fun _ _ _ h => h) (Or.inl ⟨by kernel_rfl, ?_⟩) (by assumption) ?_
  rotate_left
  · intro w hSw; (try dsimp only at hSw); go_simp; (try with_reducible rfl)
  refine wpAnyH_ready (rs := [9]) (by kernel_rfl) (by simp) ?_
  refine AllReadyH.cons rfl (fun K hK => ?_) AllReadyH.nil
  go_simp
  refine hK.out _ _ (HN.out _) (fun hS0 => ?_)
  clear hK K
  refine wpAnyH_done (by kernel_rfl) ?_ _
  go_wp2
  go_end0
  exact ⟨rfl, HE.out _ rfl⟩
end Go.Proofs.Ytjilbcefikbihaa
namespace Go.Proofs.Ytjilbcefikbihaa
open Go.RowKit
set_option linter.unusedVariables false
variable {i : Nat} {g : SaV → Int} {s0 : SaV → Int → SaV}
set_option maxRecDepth 100000 in
set_option maxHeartbeats 1600000 in
theorem nu_w (hL : LensU i g s0) (hg : ∀ a : SaV, a.wf → 0 ≤ g a ∧ g a < 18446744073709551616) (X : Nat) (f : Value) (hf : FieldIs f i) (w1 : World) (hX : w1.cell? ⟨X, 0, none⟩ = some f) (base B : Nat) (e : Int) (v : Value) (l : List Nat) (A : Nat) (a : SaV) (sv : Value) (T : TypeId) (tl : List Value)
    (hW : Wr w1 base B e v l) (hA : ActAt w1 A a sv T tl) (hwf : a.wf) (hl : l.length + (nuF g s0).cap ≤ 1000000) :
    Calls Try.prog 65 #[.pointer (some ⟨B, 0, none⟩), .pointer (some ⟨A, 0, none⟩), .pointer (some ⟨X, 0, none⟩)] w1 (WrStep w1 base B v e l ((nuF g s0).ok a) ((nuF g s0).enc a) (nuF g s0).cap) := by
  obtain ⟨m, ⟨rfl, hrun⟩, hcall⟩ := hf
  have ca : w1.cell? ⟨A, i, none⟩ = some (.int .u64 (g a)) := (Kq.blk_cell hA.blk i).trans (by rw [List.getElem?_toArray]; exact hL.get a sv tl)
  have HC := Lib.hid hcall
  have HP := Lib.hid (wr_num_step base B e v l (g a) w1 hW (hg a hwf) (by simp only [nuF] at hl; omega))
  clear hcall hW hA hL hl hwf hg
  go_enter Try.func65, Try.ntmps65
  go_wp2_with fail
  refine (HC.out A w1).mono ?_
  rintro x w2 ⟨rfl, e2⟩
  subst e2
  clear hrun
  obtain ⟨ga, hga⟩ : ∃ z, z = g a := ⟨_, rfl⟩
  have HGA := Lib.hid hga
  rw [← hga] at ca HP
  clear hga
  go_wp2_with fail
  refine HP.out.mono ?_
  intro x w3 hp
  have hx := hp.choose_spec.choose_spec.1.1
  subst hx
  have HQ := Lib.hid hp
  clear hp
  go_wp2
  go_end0
  have hq := HQ.out
  rw [HGA.out] at hq
  exact hq
set_option maxRecDepth 100000 in
set_option maxHeartbeats 1600000 in
theorem nu_r (hL : LensU i g s0) (X : Nat) (f : Value) (hf : FieldIs f i) (w1 : World) (hX : w1.cell? ⟨X, 0, none⟩ = some f) (base B : Nat) (e : Int) (s : ByteArray) (A : Nat) (a : SaV) (sv : Value) (T : TypeId) (tl : List Value)
    (hR : Rd w1 B e s) (hA : ActAt w1 A a sv T tl) (hO : w1.ownsRow base 87 2 sv a.ws.length (wcells a.ws)) (hAB : A ≠ B) (hsB : sv.ownBlock ≠ some B) (hsb : sBlk sv ≠ some B) (hs : s.size ≤ 100000000) :
    Calls Try.prog 66 #[.pointer (some ⟨B, 0, none⟩), .pointer (some ⟨A, 0, none⟩), .pointer (some ⟨X, 0, none⟩)] w1 (ReadPost w1 base B A sv T tl ((nuF g s0).get a e s)) := by
  obtain ⟨m, ⟨rfl, hrun⟩, hcall⟩ := hf
  have HC := Lib.hid hcall
  have HRd := Lib.hid (rd_number B e s w1 hR (by unfold maxLen; omega))
  have HA := Lib.hid hA
  have HO := Lib.hid hO
  have HL := Lib.hid hL
  have HN := Lib.hid (And.intro hAB (And.intro hsB hsb))
  clear hcall hR hA hO hL hAB hsB hs hsb
  go_enter Try.func66, Try.ntmps66
  go_wp2_with fail
  refine (HC.out A w1).mono ?_
  rintro x w2 ⟨rfl, e2⟩
  subst e2
  clear hrun
  go_wp2_with fail
  refine HRd.out.mono ?_
  rintro x w3 ⟨hx, R3, K3⟩
  have hA3 := HA.out.keeps K3 HN.out.1 (fun b hb hB => HN.out.2.2 (by rw [hb, hB]))
  have f3 : w3.frozen? ⟨A, i, none⟩ = false := Kq.blk_free hA3.blk i
  have c3 : w3.cell? ⟨A, i, none⟩ = some (.int .u64 (g a)) := (Kq.blk_cell hA3.blk i).trans (by rw [List.getElem?_toArray]; exact HL.out.get a sv tl)
  have hx' : x = .returned (.int .u64 ((numF e s).1)) := hx
  have R3' : Rd w3 B (numF e s).2.1 (numF e s).2.2 := R3
  have HR := Lib.hid R3'
  have HK := Lib.hid K3
  have HA3 := Lib.hid hA3
  obtain ⟨y, hy⟩ : ∃ y, y = (numF e s).1 := ⟨_, rfl⟩
  have HY := Lib.hid hy
  rw [← hy] at hx'
  subst hx'
  clear hx R3 R3' K3 hA3 hy
  go_wp2
  go_end0


  exact read_set HR.out HA3.out HK.out HO.out HN.out.1 HN.out.2.1 ((HL.out.set a y sv tl).trans (by rw [HY.out])) (HL.out.ws a _)
set_option maxRecDepth 100000 in
set_option maxHeartbeats 1600000 in
theorem nu_k (hL : LensU i g s0) (X : Nat) (f : Value) (hf : FieldIs f i) (w1 : World) (hX : w1.cell? ⟨X, 0, none⟩ = some f) (A : Nat) (a : SaV) (sv : Value) (T : TypeId) (tl : List Value) (B : Nat) (b : SaV) (sv2 : Value) (T2 : TypeId) (tl2 : List Value)
    (hA : ActAt w1 A a sv T tl) (hB : ActAt w1 B b sv2 T2 tl2) (hAB : A ≠ B) (hXB : X ≠ B) :
    Calls Try.prog 67 #[.pointer (some ⟨A, 0, none⟩), .pointer (some ⟨B, 0, none⟩), .pointer (some ⟨X, 0, none⟩)] w1 fun x w' => x = .returned (.tuple #[]) ∧ Kq.Keeps (· = B) w1 w' ∧ ∃ sv3, ActAt w' B ((nuF g s0).keep a b) sv3 T2 tl2 ∧ (sv3 = sv ∨ sv3 = sv2) := by
  obtain ⟨m, ⟨rfl, hrun⟩, hcall⟩ := hf
  have ca : w1.cell? ⟨A, i, none⟩ = some (.int .u64 (g a)) := (Kq.blk_cell hA.blk i).trans (by rw [List.getElem?_toArray]; exact hL.get a sv tl)
  have fb : w1.frozen? ⟨B, i, none⟩ = false := Kq.blk_free hB.blk i
  have cb : w1.cell? ⟨B, i, none⟩ = some (.int .u64 (g b)) := (Kq.blk_cell hB.blk i).trans (by rw [List.getElem?_toArray]; exact hL.get b sv2 tl2)
  have HC := Lib.hid hcall
  have hB' : ActAt w1.drew B b sv2 T2 tl2 := ⟨hB.blk, hB.ws.keeps (S := fun _ => False) ⟨rfl, rfl, rfl, Nat.le_refl _, fun _ _ _ => rfl⟩ (fun _ _ => id), hB.ne, hB.sl⟩
  have HE : Hid (∀ w', w1.drew.setCell ⟨B, i, none⟩ (.int .u64 (g a)) = w' → Kq.Keeps (· = B) w1 w' ∧ ∃ sv3, ActAt w' B ((nuF g s0).keep a b) sv3 T2 tl2 ∧ (sv3 = sv ∨ sv3 = sv2)) := Lib.hid (fun w' e => by
    subst e
    exact ⟨(show Kq.Keeps (· = B) w1 w1.drew from ⟨rfl, rfl, rfl, Nat.le_refl _, fun _ _ _ => rfl⟩).trans (Kq.Keeps.setCell _ _ _ rfl), sv2, hB'.set (hL.set b (g a) sv2 tl2) (hL.ws b _), Or.inr rfl⟩)
  have HN : Hid (∀ u, (w1.drew.setCell ⟨B, i, none⟩ u).cell? ⟨X, 0, none⟩ = some (Value.func (.func m) #[] #[]) ∧ (w1.drew.setCell ⟨B, i, none⟩ u).cell? ⟨A, i, none⟩ = some (.int .u64 (g a))) := Lib.hid (fun u => by
    have k : Kq.Keeps (· = B) w1.drew (w1.drew.setCell ⟨B, i, none⟩ u) := Kq.Keeps.setCell _ _ _ rfl
    have hc : ∀ k0 j, k0 ≠ B → (w1.drew.setCell ⟨B, i, none⟩ u).cell? ⟨k0, j, none⟩ = w1.cell? ⟨k0, j, none⟩ := fun k0 j hk => by
      show World.cell? _ _ = w1.drew.cell? ⟨k0, j, none⟩
      unfold World.cell?
      rw [Below.heap_setCell _ _ _ _ (fun e => hk e)]
    exact ⟨(hc X 0 hXB).trans hX, (hc A i hAB).trans ca⟩)
  clear hcall hA hB hB' hL hAB hXB
  obtain ⟨ga, hga⟩ : ∃ z, z = g a := ⟨_, rfl⟩
  rw [← hga] at ca HE HN
  clear hga
  go_enter Try.func67, Try.ntmps67
  go_wp2
  refine wp_region_held_drew (S := fun w' => w'.cell? ⟨X, 0, none⟩ = some (Value.func (.func m) #[] #[]) ∧ w'.cell? ⟨A, i, none⟩ = some (.int .u64 (ga))) (by kernel_rfl) ⟨hX, ca⟩ (fun hS0 => ?_)
  have c1 : w1.drew.cell? ⟨X, 0, none⟩ = some (Value.func (.func m) #[] #[]) := hX
  have c2 : w1.drew.cell? ⟨A, i, none⟩ = some (.int .u64 (ga)) := ca
  have c3 : w1.drew.frozen? ⟨B, i, none⟩ = false := fb
  have c4 : w1.drew.cell? ⟨B, i, none⟩ = some (.int .u64 (g b)) := cb
  clear hX ca fb cb
  generalize w1.drew = z0 at *
  refine wpAnyH_take (i := 0) (v := ?_) rfl (by kernel_rfl) (by kernel_rfl) (by kernel_rfl) (fun _ _ _ h => h) (Or.inl ⟨by kernel_rfl, ?_⟩) (by assumption) ?_
  rotate_left
  · intro w hSw; (try dsimp only at hSw); go_simp; (try with_reducible rfl)
  refine wpAnyH_take (i := 1) (v := ?_) rfl (by kernel_rfl) (by kernel_rfl) (by kernel_rfl) (fun _ _ _ h => h) (Or.inl ⟨by kernel_rfl, ?_⟩) (by assumption) ?_
  rotate_left
  · intro w hSw; (try dsimp only at hSw); go_simp; (try with_reducible rfl)
  refine wpAnyH_take (i := 3) (v := ?_) rfl (by kernel_rfl) (by kernel_rfl) (by kernel_rfl) (fun _ _ _ h => h) (Or.inl ⟨by kernel_rfl, ?_⟩) (by assumption) ?_
  rotate_left
  · intro w hSw; (try dsimp only at hSw); go_simp; (try with_reducible rfl)
  refine wpAnyH_take (i := 4) (v := ?_) rfl (by kernel_rfl) (by kernel_rfl) (by kernel_rfl) (fun _ _ _ h => h) (Or.inl ⟨by kernel_rfl, ?_⟩) (by assumption) ?_
  rotate_left
  · intro w hSw; (try dsimp only at hSw); go_simp; (try with_reducible rfl)
  refine wpAnyH_ready (rs := [2]) (by kernel_rfl) (by simp) ?_
  refine AllReadyH.cons rfl (fun K hK => ?_) AllReadyH.nil
  go_simp
  refine (HC.out B z0).mono ?_
  rintro x z1 ⟨rfl, e1⟩
  subst e1
  refine hK.out _ _ hS0 (fun hS0 => ?_)
  clear hK K
  refine wpAnyH_ready (rs := [5]) (by kernel_rfl) (by simp) ?_
  refine AllReadyH.cons rfl (fun K hK => ?_) AllReadyH.nil
  go_simp
  refine (HC.out A z0).mono ?_
  rintro x z1 ⟨rfl, e1⟩
  subst e1
  refine hK.out _ _ hS0 (fun hS0 => ?_)
  clear hK K
  refine wpAnyH_take (i := 6) (v := ?_) rfl (by kernel_rfl) (by kernel_rfl) (by kernel_rfl) (fun _ _ _ h => h) (Or.inl ⟨by kernel_rfl, ?_⟩) (by assumption) ?_
  rotate_left
  · intro w hSw; (try dsimp only at hSw); go_simp; (try with_reducible rfl)
  refine wpAnyH_take (i := 7) (v := ?_) rfl (by kernel_rfl) (by kernel_rfl) (by kernel_rfl) (fun _ _ _ h => h) (Or.inl ⟨by kernel_rfl, ?_⟩) (by assumption) ?_
  rotate_left
  · intro w hSw; (try dsimp only at hSw); go_simp; (try with_reducible rfl)
  refine wpAnyH_take (i := 8) (v := ?_) rfl (by kernel_rfl) (by kernel_rfl) (by kernel_rfl) (fun _ _ _ h => h) (Or.inl ⟨by kernel_rfl, ?_⟩) (by assumption) ?_
  rotate_left
  · intro w hSw; (try dsimp only at hSw); go_simp; (try with_reducible rfl)
  refine wpAnyH_ready (rs := [9]) (by kernel_rfl) (by simp) ?_
  refine AllReadyH.cons rfl (fun K hK => ?_) AllReadyH.nil
  go_simp
  refine hK.out _ _ (HN.out _) (fun hS0 => ?_)
  clear hK K
  refine wpAnyH_done (by kernel_rfl) ?_ _
  go_wp2
  go_end0
  exact ⟨rfl, HE.out _ rfl⟩
end Go.Proofs.Ytjilbcefikbihaa
