/- Package script's writes: what is read. Condition: sizes. -/
import Derived.WalkSpells
import Derived.Outline
import Derived.ProofKit
import Derived.Test.YtjilbcefikbihaaHeldLastQ
import Derived.Test.YtjilbcefikbihaaRowGQ
import Derived.Test.YtjilbcefikbihaaScAllQ
import Derived.Test.YtjilbcefikbihaaScPairQ
namespace Go.Proofs.Ytjilbcefikbihaa
open Go.RowKit
set_option linter.unusedVariables false
def wtE : Kq.Elt (Bool × Int) := ⟨2, fun x => [.bool x.1, .int .i64 x.2], fun _ => rfl, fun x u hu => by
  simp only [List.mem_cons, List.not_mem_nil, or_false] at hu
  rcases hu with rfl | rfl <;> rfl, by decide⟩
theorem wcells_snoc (l : List (Bool × Int)) (x : Bool × Int) : wcells (l ++ [x]) = wcells l ++ wtE.flat [x] := by simp [wcells, Kq.Elt.flat, wtE]
theorem infoWt : (Try.prog.info? 87).map (fun i => (i.zero, i.size, i.bytes)) = some (some (.agg #[.bool false, .int .i64 0]), 2, 16) := by kernel_rfl
theorem info_partsW {t : TypeId} {z : Value} {s b : Nat} (h : (Try.prog.info? t).map (fun i => (i.zero, i.size, i.bytes)) = some (some z, s, b)) : ∃ i, Try.prog.info? t = some i ∧ i.zero = some z ∧ i.size = s ∧ i.bytes = b := by
  cases hi : Try.prog.info? t with
  | none => rw [hi] at h; cases h
  | some i =>
    rw [hi] at h
    simp only [Option.map_some, Option.some.injEq, Prod.mk.injEq] at h
    exact ⟨i, rfl, h.1, h.2.1, h.2.2⟩
theorem getW_snoc (j : Nat) (e : Int) (b : ByteArray) : getW (j + 1) e b =
    ((getW j e b).1 ++ [(decide ((byteF (getW j e b).2.1 (getW j e b).2.2).1 ≠ 0), (pairF (byteF (getW j e b).2.1 (getW j e b).2.2).2.1 (byteF (getW j e b).2.1 (getW j e b).2.2).2.2).1)],
      (pairF (byteF (getW j e b).2.1 (getW j e b).2.2).2.1 (byteF (getW j e b).2.1 (getW j e b).2.2).2.2).2) := by
  induction j generalizing e b with
  | zero => rfl
  | succ j ih =>
    rw [getW]
    rw [ih]
    rfl
theorem byteF_size (e : Int) (s : ByteArray) : (byteF e s).2.2.size ≤ s.size := raw_left_size e s _
theorem pairF_size (e : Int) (s : ByteArray) : (pairF e s).2.2.size ≤ s.size := Nat.le_trans (byteF_size _ _) (byteF_size e s)
theorem getW_size (j : Nat) (e : Int) (b : ByteArray) : (getW j e b).2.2.size ≤ b.size := by
  induction j generalizing e b with
  | zero => exact Nat.le_refl _
  | succ j ih => exact Nat.le_trans (ih _ _) (Nat.le_trans (pairF_size _ _) (byteF_size _ _))
theorem getW_len (j : Nat) (e : Int) (b : ByteArray) : (getW j e b).1.length = j := by
  induction j generalizing e b with
  | zero => rfl
  | succ j ih => simp only [getW, List.length_cons]; rw [ih]
theorem wr_close {wr w3 ze z3 : World} {base B A : Nat} {y : SaV} {sv v' : Value} {T : TypeId} {tl : List Value} {e4 : Int} {s4 : ByteArray} {x : Bool × Int}
    (hact : ActAt w3 A y sv T tl) (hown : w3.ownsRow base 87 2 sv y.ws.length (wcells y.ws)) (hR : Rd w3 B e4 s4) (hAB : A ≠ B) (hsB : sv.ownBlock ≠ some B) (hbz : Below w3.heap.size w3 ze)
    (hgrow : ze.grownBy z3 sv.ownBlock) (hownz : z3.ownsRow base 87 2 v' (y.ws ++ [x]).length (wtE.flat (y.ws ++ [x]))) (hfr : ∀ k, v'.ownBlock = some k → some k = sv.ownBlock ∨ ze.heap.size ≤ k) (hK : Kq.Keeps (· = B) wr w3) :
    ReadPost wr base B A sv T tl ({ y with ws := y.ws ++ [x] }, e4, s4) (.returned (.tuple #[])) (z3.setCell ⟨A, 13, none⟩ v') := by
  have hsA : sv.ownBlock ≠ some A := fun h => own_ne_act hact hown h rfl
  have k1 : Kq.Keeps (fun k => some k = sv.ownBlock) w3 z3 := (keeps_any hbz).trans (Kq.Keeps.grown hgrow (fun k _ hk => hk.symm))
  have hA3 : z3.heap[A]? = some (.cells ⟨y.cells sv tl⟩ T (0, 0)) := k1.blk hact.blk (fun h => hsA h.symm)
  have hR3 : Rd z3 B e4 s4 := k1.blk hR (fun h => hsB h.symm)
  have kA : Kq.Keeps (· = A) z3 (z3.setCell ⟨A, 13, none⟩ v') := Kq.Keeps.setCell _ _ _ rfl
  have hvA : ∀ k, v'.ownBlock = some k → k ≠ A := fun k hk => by
    rcases hfr k hk with h | h
    · intro e; exact hsA (by rw [← h, e])
    · have := hact.lt; have := hbz.size; omega
  have hown' : (z3.setCell ⟨A, 13, none⟩ v').ownsRow base 87 2 v' (y.ws ++ [x]).length (wtE.flat (y.ws ++ [x])) := own_later hownz (fun k hk => kA.block k (hownz.lt k hk).2 (hvA k hk))
  obtain ⟨A', cap, hv', _, hat, _⟩ := Kq.Elt.own_at (E := wtE) hown'
  refine ⟨rfl, kA.blk hR3 (fun h => hAB h.symm), v', ⟨?_, ?_, ?_, ?_⟩, hown', ?_, ?_⟩
  · rw [Kq.blk_set hA3 13 v']
    congr 2
  · refine ⟨A', cap, hv', fun j hj => ?_⟩
    obtain ⟨b, o, h1, h2, h3⟩ := hat j hj
    exact ⟨b, o, h1, h2, h3 0 (by decide), h3 1 (by decide)⟩
  · exact fun h => hvA A (own_sB h) rfl
  · intro b hb
    exact (hown'.lt b (own_sB hb)).2
  · exact ((hK.mono (fun k _ hk => Or.inl hk)).trans (k1.mono (fun k _ hk => Or.inr (Or.inr hk)))).trans (kA.mono (fun k _ hk => Or.inr (Or.inl hk)))
  · intro k hk
    exact (hfr k hk).imp id (fun h => Nat.le_trans hK.size (Nat.le_trans hbz.size h))
set_option maxRecDepth 100000 in
set_option maxHeartbeats 4000000 in
theorem ws_r (w1 : World) (base B : Nat) (e : Int) (s : ByteArray) (A : Nat) (a : SaV) (sv : Value) (T : TypeId) (tl : List Value) (hR : Rd w1 B e s) (hb1 : base ≤ w1.heap.size) (hA : ActAt w1 A a sv T tl) (hO : w1.ownsRow base 87 2 sv a.ws.length (wcells a.ws)) (hAB : A ≠ B) (hsB : sv.ownBlock ≠ some B) (hs : s.size ≤ 100000000) (hn : a.ws.length ≤ 1000) :
    Calls Try.prog 82 #[.pointer (some ⟨B, 0, none⟩), .pointer (some ⟨A, 0, none⟩)] w1 (ReadPost w1 base B A sv T tl (wrF.get a e s)) := by
  obtain ⟨i0, hi0, hz0, hz1, hz2⟩ := info_partsW infoWt
  obtain ⟨n, hn1, hn2⟩ := byte_get e s
  obtain ⟨e1, he1⟩ : ∃ z, z = (byteF e s).2.1 := ⟨_, rfl⟩
  obtain ⟨s1, hs1⟩ : ∃ z, z = (byteF e s).2.2 := ⟨_, rfl⟩
  have HF : Hid (wrF.get a e s = ({ a with ws := a.ws ++ (getW n e1 s1).1 }, (getW n e1 s1).2)) := Lib.hid (by
    show (({ a with ws := a.ws ++ (getW (byteF e s).1.toNat (byteF e s).2.1 (byteF e s).2.2).1 } : SaV), _) = _
    rw [hn1, ← he1, ← hs1]; rfl)
  have HR1 : Hid (∀ x w', BytePost w1 B e s ((1 : Nat) : Int) x w' → x = .returned (.int .i64 (n : Int)) ∧ Rd w' B e1 s1 ∧ Kq.Keeps (· = B) w1 w') := Lib.hid (fun x w' h => ⟨by rw [← hn1]; exact h.1, by rw [he1, hs1]; exact h.2.1, h.2.2⟩)
  have HRd := Lib.hid (rd_byte B e s w1 hR (by unfold maxLen; omega))
  have HS1 : Hid (s1.size ≤ 100000000) := Lib.hid (by rw [hs1]; exact Nat.le_trans (byteF_size e s) hs)
  have HH := Lib.hid (And.intro hA (And.intro hO (And.intro hAB (And.intro hsB (And.intro hn (And.intro hb1 (Kq.blk_lt hR)))))))
  clear hn1 he1 hs1 hR hA hO hAB hsB hs hn hb1
  go_enter Try.func82, Try.ntmps82
  go_wp2_with fail
  refine HRd.out.mono ?_
  intro x w2 hp
  obtain ⟨rfl, r2, k2⟩ := HR1.out x w2 hp
  have HST : Hid (AR w1 base B A sv T tl ({ a with ws := a.ws ++ (getW 0 e1 s1).1 }, (getW 0 e1 s1).2) w2) := Lib.hid (by
    show AR w1 base B A sv T tl ({ a with ws := a.ws ++ [] }, e1, s1) w2
    rw [List.append_nil]
    refine ⟨rfl, r2, sv, HH.out.1.keeps k2 HH.out.2.2.1 (fun b hb hbB => HH.out.2.2.2.1 (by rw [own_sB hb, hbB])), own_later HH.out.2.1 (fun k hk => k2.block k (HH.out.2.1.lt k hk).2 (fun hkB => HH.out.2.2.2.1 (by rw [hk, hkB]))), k2.mono (fun k _ hk => Or.inl hk), fun k hk => Or.inl hk.symm⟩)
  clear hp r2 k2
  go_wp2
  go_loopw [7] (fun u wr => ∃ j : Nat, j ≤ n ∧ u = .int .i64 (j : Int) ∧ AR w1 base B A sv T tl ({ a with ws := a.ws ++ (getW j e1 s1).1 }, (getW j e1 s1).2) wr) (fun u _ => n - (intOf u).toNat)
  case atStart => exact ⟨0, Nat.zero_le _, rfl, HST.out⟩
  case round =>
    obtain ⟨j, hj, rfl, hst⟩ := hrel
    have hj6 : j ≤ 256 := by omega
    by_cases hlt : j < n
    · obtain ⟨_, hr, sv', hact, hown, hK, hfr⟩ := hst
      obtain ⟨y, hy⟩ : ∃ z : SaV, z = { a with ws := a.ws ++ (getW j e1 s1).1 } := ⟨_, rfl⟩
      obtain ⟨e2, he2⟩ : ∃ z, z = (getW j e1 s1).2.1 := ⟨_, rfl⟩
      obtain ⟨s2, hs2⟩ : ∃ z, z = (getW j e1 s1).2.2 := ⟨_, rfl⟩
      have hr' : Rd wr B e2 s2 := by rw [he2, hs2]; exact hr
      have hact' : ActAt wr A y sv' T tl := by rw [hy]; exact hact
      have hown' : wr.ownsRow base 87 2 sv' y.ws.length (wcells y.ws) := by rw [hy]; exact hown
      have HZ : Hid (s2.size ≤ 100000000 ∧ y.ws.length ≤ 1300) := Lib.hid ⟨by rw [hs2]; exact Nat.le_trans (getW_size _ _ _) HS1.out, by
        rw [hy]
        show (a.ws ++ (getW j e1 s1).1).length ≤ 1300
        rw [List.length_append, getW_len]
        have := HH.out.2.2.2.2.1
        omega⟩
      obtain ⟨q, hq1, hq2⟩ := byte_get e2 s2
      obtain ⟨e3, he3⟩ : ∃ z, z = (byteF e2 s2).2.1 := ⟨_, rfl⟩
      obtain ⟨s3, hs3⟩ : ∃ z, z = (byteF e2 s2).2.2 := ⟨_, rfl⟩
      obtain ⟨qt, hqt⟩ : ∃ z, z = (pairF e3 s3).1 := ⟨_, rfl⟩
      obtain ⟨e4, he4⟩ : ∃ z, z = (pairF e3 s3).2.1 := ⟨_, rfl⟩
      obtain ⟨s4, hs4⟩ : ∃ z, z = (pairF e3 s3).2.2 := ⟨_, rfl⟩
      obtain ⟨qb, hqb⟩ : ∃ z : Bool, z = ((q : Int) != 0) := ⟨_, rfl⟩
      have HNX : Hid (({ a with ws := a.ws ++ (getW (j + 1) e1 s1).1 }, (getW (j + 1) e1 s1).2) = (({ y with ws := y.ws ++ [(qb, qt)] } : SaV), e4, s4)) := Lib.hid (by
        rw [getW_snoc, ← he2, ← hs2, ← he3, ← hs3, hq1, hy]
        have hd : decide (((q : Nat) : Int) ≠ 0) = qb := by rw [hqb]; by_cases h : q = 0 <;> simp [h]
        rw [hd, ← hqt, he4, hs4, List.append_assoc])
      have HB1 := Lib.hid (rd_byte B e2 s2 wr hr' (by have := HZ.out.1; unfold maxLen; omega))
      have HB2 : Hid (∀ x w', BytePost wr B e2 s2 ((1 : Nat) : Int) x w' → x = .returned (.int .i64 (q : Int)) ∧ Rd w' B e3 s3 ∧ Kq.Keeps (· = B) wr w') := Lib.hid (fun x w' h => ⟨by rw [← hq1]; exact h.1, by rw [he3, hs3]; exact h.2.1, h.2.2⟩)
      have HG1 : Hid (∀ wx, Rd wx B e3 s3 → Calls Try.prog 33 #[.pointer (some ⟨B, 0, none⟩)] wx fun x w' => x = .returned (.int .i64 qt) ∧ Rd w' B e4 s4 ∧ Kq.Keeps (· = B) wx w') := Lib.hid (fun wx hwx => (sc_getPair B e3 s3 wx hwx (by rw [hs3]; have := byteF_size e2 s2; have := HZ.out.1; unfold maxLen; omega)).mono fun x w' h => ⟨by rw [hqt]; exact h.1, by rw [he4, hs4]; exact h.2.1, h.2.2⟩)
      obtain ⟨A0, q0, cap, rfl⟩ := Kq.own_shape hown'
      have HNB : Hid ((Value.slice A0 q0 cap).ownBlock ≠ some B ∧ sBlk (.slice A0 q0 cap) ≠ some B) := Lib.hid (by
        have h1 : (Value.slice A0 q0 cap).ownBlock ≠ some B := fun h5 => by
          rcases hfr B h5 with h6 | h6
          · exact HH.out.2.2.2.1 h6.symm
          · have := HH.out.2.2.2.2.2.2; omega
        exact ⟨h1, fun h => h1 (own_sB h)⟩)
      have HM := Lib.hid (And.intro hact' (And.intro hown' (And.intro hK hfr)))
      have HLT := Lib.hid hlt
      have HQB := Lib.hid hqb
      have t1 : decide ((j : Int) < (n : Int)) = true := decide_eq_true (by omega)
      have t2 : decide (j < n) = true := decide_eq_true hlt
      clear hr hact hown hr' hact' hown' hK hfr hy he2 hs2 hq1 he3 hs3 hqt he4 hs4 hlt hj hqb
      go_wp2_with fail
      refine HB1.out.mono ?_
      intro x w3 hp
      obtain ⟨rfl, r3, k3⟩ := HB2.out x w3 hp
      have a3 := HM.out.1.keeps k3 HH.out.2.2.1 (fun b hb hbB => HNB.out.2 (by rw [hb, hbB]))
      have o3 := own_later HM.out.2.1 (fun k hk => k3.block k (HM.out.2.1.lt k hk).2 (fun hkB => HNB.out.1 (by rw [hk, hkB])))
      have kd : Kq.Keeps (· = B) w3 w3.drew := ⟨rfl, rfl, rfl, Nat.le_refl _, fun _ _ _ => rfl⟩
      have HD0 : Hid (ActAt w3.drew A y (.slice A0 q0 cap) T tl ∧ w3.drew.ownsRow base 87 2 (.slice A0 q0 cap) y.ws.length (wcells y.ws) ∧ Rd w3.drew B e3 s3 ∧ Kq.Keeps (· = B) wr w3.drew) := Lib.hid ⟨a3.keeps (S := fun _ => False) ⟨rfl, rfl, rfl, Nat.le_refl _, fun _ _ _ => rfl⟩ id (fun _ _ => id), o3, r3, k3.trans kd⟩
      have hS : w3.drew.cell? ⟨A, 13, none⟩ = some (.slice A0 q0 cap) := Kq.blk_cell a3.blk 13
      clear hp r3 k3 a3 o3 kd
      go_wp2
      have HQ2 : Hid (((q : Int) != 0) = qb) := Lib.hid HQB.out.symm
      rw [HQ2.out]
      obtain ⟨wd, hwd⟩ : ∃ z, z = w3.drew := ⟨_, rfl⟩
      refine Kq.wp_region_T 13 (fun cur => cur.cell? ⟨A, 13, none⟩ = some (.slice A0 q0 cap)) (by kernel_rfl) hS (fun hS0 => ?_)
      rw [← hwd] at hS0 HD0 ⊢
      clear hwd hS
      refine Kq.wpAnyT_take (i := 0) (v := ?_) rfl rfl (by kernel_rfl) (by kernel_rfl) (by kernel_rfl) (by kernel_rfl) (fun _ _ _ h => h) (Or.inl ⟨by kernel_rfl, ?_⟩) (by assumption) ?_
      rotate_left
      · intro w hSw; (try dsimp only at hSw); go_simp; (try with_reducible rfl)
      refine Kq.wpAnyT_take (i := 1) (v := ?_) rfl rfl (by kernel_rfl) (by kernel_rfl) (by kernel_rfl) (by kernel_rfl) (fun _ _ _ h => h) (Or.inl ⟨by kernel_rfl, ?_⟩) (by assumption) ?_
      rotate_left
      · intro w hSw; (try dsimp only at hSw); go_simp; (try with_reducible rfl)
      refine Kq.wpAnyT_take (i := 2) (v := ?_) rfl rfl (by kernel_rfl) (by kernel_rfl) (by kernel_rfl) (by kernel_rfl) (fun _ _ _ h => h) (Or.inl ⟨by kernel_rfl, ?_⟩) (by assumption) ?_
      rotate_left
      · intro w hSw; (try dsimp only at hSw); go_simp; (try with_reducible rfl)
      refine Kq.wpAnyT_take (i := 3) (v := ?_) rfl rfl (by kernel_rfl) (by kernel_rfl) (by kernel_rfl) (by kernel_rfl) (fun _ _ _ h => h) (Or.inl ⟨by kernel_rfl, ?_⟩) (by assumption) ?_
      rotate_left
      · intro w hSw; (try dsimp only at hSw); go_simp; (try with_reducible rfl)
      refine Kq.wpAnyT_take (i := 4) (v := ?_) rfl rfl (by kernel_rfl) (by kernel_rfl) (by kernel_rfl) (by kernel_rfl) (fun _ _ _ h => h) (Or.inl ⟨by kernel_rfl, ?_⟩) (by assumption) ?_
      rotate_left
      · intro w hSw; (try dsimp only at hSw); go_simp; (try with_reducible rfl)
      refine Kq.wpAnyT_take (i := 5) (v := ?_) rfl rfl (by kernel_rfl) (by kernel_rfl) (by kernel_rfl) (by kernel_rfl) (fun _ _ _ h => h) (Or.inl ⟨by kernel_rfl, ?_⟩) (by assumption) ?_
      rotate_left
      · intro w hSw; (try dsimp only at hSw); go_simp; (try with_reducible rfl)
      refine Kq.wpAnyT_take (i := 6) (v := ?_) rfl rfl (by kernel_rfl) (by kernel_rfl) (by kernel_rfl) (by kernel_rfl) (fun _ _ _ h => h) (Or.inl ⟨by kernel_rfl, ?_⟩) (by assumption) ?_
      rotate_left
      · intro w hSw; (try dsimp only at hSw); go_simp; (try with_reducible rfl)
      refine Kq.wpAnyT_one (i := 7) (by kernel_rfl) rfl (fun K hK => ?_)
      go_simp
      refine (HG1.out wd HD0.out.2.2.1).mono ?_
      rintro x w4 ⟨rfl, r4, k4⟩
      have HD1 : Hid (ActAt w4 A y (.slice A0 q0 cap) T tl ∧ w4.ownsRow base 87 2 (.slice A0 q0 cap) y.ws.length (wcells y.ws) ∧ Rd w4 B e4 s4 ∧ Kq.Keeps (· = B) wr w4) := Lib.hid ⟨HD0.out.1.keeps k4 HH.out.2.2.1 (fun b hb hbB => HNB.out.2 (by rw [hb, hbB])), own_later HD0.out.2.1 (fun k hk => k4.block k (HD0.out.2.1.lt k hk).2 (fun hkB => HNB.out.1 (by rw [hk, hkB]))), r4, HD0.out.2.2.2.trans k4⟩
      clear r4 k4 hS0
      refine hK.out _ _ (Kq.blk_cell HD1.out.1.blk 13) (fun hS0 => ?_)
      clear hK K
      refine Kq.wpAnyT_take (i := 8) (v := ?_) rfl rfl (by kernel_rfl) (by kernel_rfl) (by kernel_rfl) (by kernel_rfl) (fun _ _ _ h => h) (Or.inl ⟨by kernel_rfl, ?_⟩) (by assumption) ?_
      rotate_left
      · intro w hSw; (try dsimp only at hSw); go_simp; (try with_reducible rfl)
      refine Kq.wpAnyT_one (i := 9) (by kernel_rfl) rfl (fun K hK => ?_)
      go_simp
      have bz := Kq.below_alloc w4 (.cells #[.bool qb, .int .i64 qt] 87)
      have HSRC : Hid (Src Try.prog 2 27 (.slice (some ⟨w4.heap.size, 0, none⟩) 1 1) 1 (wtE.flat [(qb, qt)]) (w4.alloc (.cells #[.bool qb, .int .i64 qt] 87))) := Lib.hid (Kq.Elt.At.src Try.underlying27 (E := wtE) 1 (Kq.Elt.made_one (E := wtE) (qb, qt) w4 87))
      obtain ⟨ze, hze⟩ : ∃ z, z = w4.alloc (.cells #[.bool qb, .int .i64 qt] 87) := ⟨_, rfl⟩
      obtain ⟨zb, hzb⟩ : ∃ z, z = w4.heap.size := ⟨_, rfl⟩
      rw [← hze] at bz HSRC ⊢
      rw [← hzb] at HSRC ⊢
      have HBZ := Lib.hid bz
      have HZE : Hid (ze.cell? ⟨A, 13, none⟩ = some (.slice A0 q0 cap) ∧ ze.ownsRow base 87 2 (.slice A0 q0 cap) y.ws.length (wcells y.ws) ∧ base ≤ ze.heap.size) := Lib.hid ⟨(bz.cell (p := ⟨A, 13, none⟩) HD1.out.1.lt).trans (Kq.blk_cell HD1.out.1.blk 13), own_later HD1.out.2.1 (fun k hk => bz.block k (HD1.out.2.1.lt k hk).2), by
        have h1 := HH.out.2.2.2.2.2.1
        have h2 := HM.out.2.2.1.size
        have h3 := HD1.out.2.2.2.size
        have h4 := bz.size
        omega⟩
      clear hze hzb bz hS0
      refine hK.out _ _ HZE.out.1 (fun hS0 => ?_)
      clear hK K
      refine Kq.wpAnyT_one (i := 10) (by kernel_rfl) rfl (fun K hK => ?_)
      rw [if_pos (by kernel_rfl)]
      refine Kq.wp_append_any _ (.tmp 16) (.tmp 21) 27 27 rfl base 87 i0 (.agg #[.bool false, .int .i64 0]) 2 16 Try.underlying27 hi0 hz0 hz1 hz2 rfl (by decide) (.slice A0 q0 cap) y.ws.length (wcells y.ws) (by kernel_rfl) HZE.out.2.1 (.slice (some ⟨zb, 0, none⟩) 1 1) 1 (wtE.flat [(qb, qt)]) (by kernel_rfl) HSRC.out ?e1 ?e2 HZE.out.2.2 ?_
      case e1 => have := HZ.out.2; unfold maxLen; omega
      case e2 => have := HZ.out.2; omega
      intro v' z3 hown3 hgrow hfresh
      have hownE : z3.ownsRow base 87 2 v' (y.ws ++ [(qb, qt)]).length (wtE.flat (y.ws ++ [(qb, qt)])) := by
        rw [List.length_append, Kq.Elt.flat_append]; exact hown3
      have HCL := Lib.hid (wr_close HD1.out.1 HD1.out.2.1 HD1.out.2.2.1 HH.out.2.2.1 HNB.out.1 HBZ.out hgrow hownE hfresh HD1.out.2.2.2)
      have hA3 : z3.heap[A]? = some (.cells ⟨y.cells (.slice A0 q0 cap) tl⟩ T (0, 0)) := (Kq.Keeps.grown (S := fun k => some k = (Value.slice A0 q0 cap).ownBlock) hgrow (fun k _ hk => hk.symm)).blk ((keeps_any (S := fun _ => False) HBZ.out).blk HD1.out.1.blk id) (fun h => own_ne_act HD1.out.1 HD1.out.2.1 h.symm rfl)
      obtain ⟨a', q', cp', hv'⟩ := Kq.own_shape hown3
      subst hv'
      have c6 : z3.cell? ⟨A, 13, none⟩ = some (.slice A0 q0 cap) := Kq.blk_cell hA3 13
      have f6 : z3.frozen? ⟨A, 13, none⟩ = false := Kq.blk_free hA3 13
      clear hown3 hgrow hfresh HSRC hS0 hownE hA3
      refine hK.out _ _ c6 (fun hS0 => ?_)
      clear hK K
      refine Kq.wpAnyT_one (i := 11) (by kernel_rfl) rfl (fun K hK => ?_)
      go_simp
      refine hK.out _ _ c6 (fun hS0 => ?_)
      clear hK K
      refine Kq.wpAnyT_take (i := 12) (v := ?_) rfl rfl (by kernel_rfl) (by kernel_rfl) (by kernel_rfl) (by kernel_rfl) (fun _ _ _ h => h) (Or.inl ⟨by kernel_rfl, ?_⟩) (by assumption) ?_
      rotate_left
      · intro w hSw; (try dsimp only at hSw); go_simp; (try with_reducible rfl)
      refine Kq.wpAnyT_last (by kernel_rfl) rfl (fun K hK => ?_)
      go_simp
      refine hK.out _ _ ?_
      clear hK K
      refine Kq.wpAnyT_done (by kernel_rfl) ?_ _
      clear hS0 c6 f6
      go_wp2
      go_roundw
      case rel =>
        refine ⟨j + 1, HLT.out, by go_num, ?_⟩
        rw [HNX.out]
        exact AR.next HM.out.2.2.1 HM.out.2.2.2 (Below.refl _ _) HCL.out
      case measure => have := HLT.out; simp [intOf]; omega
    · obtain rfl : j = n := by omega
      have HSE := Lib.hid hst
      have t1 : decide ((j : Int) < (j : Int)) = false := decide_eq_false (by omega)
      have t2 : decide (j < j) = false := decide_eq_false hlt
      clear hst hlt hj
      go_wp2
      go_end0
      rw [HF.out]
      exact HSE.out
end Go.Proofs.Ytjilbcefikbihaa
