/- Contract of (*sha.state).add: a hash is fed. Condition: sizes. -/
import Derived.StillTailTactics
import Derived.Test.YtbjchfcoacmaaaaGreatDoorShFeedQ
namespace Go.Proofs.YtbjchfcoacmaaaaGreatDoor
open Go.RowKit
set_option linter.unusedVariables false
/-- block B holds a hash of the text l -/
structure Fed (w : World) (B : Nat) (t : TypeId) (l : List Nat) : Prop where
  ex : ∃ ws b, StS w B t ws b l.length ∧ Of l ws b
theorem Fed.below {w w' : World} {B : Nat} {t : TypeId} {l : List Nat} (h : Fed w B t l) (hb : Below w.heap.size w w') : Fed w' B t l := by
  obtain ⟨ws, b, h1, h2⟩ := h.ex
  exact ⟨ws, b, h1.below hb, h2⟩
theorem StS.put {w : World} {B : Nat} {t : TypeId} {ws b : List Nat} {n : Nat} (h : StS w B t ws b n) (p : Nat) (r : List Nat) (hr : p + r.length ≤ 64) (hlt : ∀ x ∈ r, x < 256) :
    StS (w.setRow B ((stc ws b n).toList.take (8 + p) ++ bcl r ++ (stc ws b n).toList.drop (8 + p + r.length)).toArray) B t ws (b.take p ++ r ++ b.drop (p + r.length)) n ∧
    Kq.Keeps (· = B) w (w.setRow B ((stc ws b n).toList.take (8 + p) ++ bcl r ++ (stc ws b n).toList.drop (8 + p + r.length)).toArray) := by
  generalize hc : ((stc ws b n).toList.take (8 + p) ++ bcl r ++ (stc ws b n).toList.drop (8 + p + r.length)).toArray = c
  have hk : Kq.Keeps (· = B) w (w.setRow B c) := ⟨rfl, rfl, rfl, by simp [World.setRow], fun k _ hn => by
    rw [World.setRow, Array.getElem?_modify, if_neg (fun e => hn e.symm)]⟩
  refine ⟨⟨?_, h.w8, ?_, h.wlt, ?_, h.roots.keeps hk (fun e => by have := h.far; omega) h.low, h.far, Nat.lt_of_lt_of_le h.low hk.size⟩, hk⟩
  · rw [set_row w B _ c t (0, 0) h.blk, ← hc, stc_put ws b r n p h.w8 h.b64 hr]
  · simp [h.b64]; omega
  · intro x hx
    simp only [List.mem_append] at hx
    rcases hx with (hx | hx) | hx
    · exact h.blt x (List.mem_of_mem_take hx)
    · exact hlt x hx
    · exact h.blt x (List.mem_of_mem_drop hx)
theorem StS.setLen {w : World} {B : Nat} {t : TypeId} {ws b : List Nat} {n : Nat} (h : StS w B t ws b n) (m : Nat) :
    StS (w.setCell ⟨B, 72, none⟩ (.int .i64 (m : Int))) B t ws b m ∧ Kq.Keeps (· = B) w (w.setCell ⟨B, 72, none⟩ (.int .i64 (m : Int))) := by
  have hk : Kq.Keeps (· = B) w (w.setCell ⟨B, 72, none⟩ (.int .i64 (m : Int))) := Kq.Keeps.setCell _ _ _ rfl
  refine ⟨⟨?_, h.w8, h.b64, h.wlt, h.blt, h.roots.keeps hk (fun e => by have := h.far; omega) h.low, h.far, Nat.lt_of_lt_of_le h.low hk.size⟩, hk⟩
  rw [Kq.blk_set h.blk, stc_set_len ws b n m h.w8 h.b64]
theorem slice_from (w : World) (B p : Nat) (hp : p < 64) : (Instr.sliceAt 232 (.pointer (some ⟨B, 8, none⟩)) (some (.int .i64 (p : Int))) none none).run Tryz.prog w = .ok (.slice (some ⟨B, 8 + p, none⟩) (64 - p) (64 - p)) w := by
  have h1 : Tryz.prog.arrayLen 232 = 64 := by kernel_rfl
  have h2 : Tryz.prog.elem 232 = 5 := by kernel_rfl
  have hu : Tryz.prog.underlying 232 = some (.array (Tryz.prog.arrayLen 232) (Tryz.prog.elem 232)) := by rw [h1, h2]; exact Tryz.underlying232
  have := run_sliceAt_array_l w 232 ⟨B, 8, none⟩ hu .i64 (p : Int) (by omega) (by rw [h1]; omega)
  rw [this, h1, h2, Tryz.sizeOf5]
  simp only [Result.andThen, slicedAt]
  rw [Int.toNat_natCast, if_neg (by omega)]
  have e3 : (⟨B, 8, none⟩ : Addr).add (p * 1) = ⟨B, 8 + p, none⟩ := by unfold Addr.add; split <;> simp_all
  rw [e3]
structure AddI (w : World) (B : Nat) (t : TypeId) (all : List Nat) (r : ByteArray) (wr : World) : Prop where
  ex : ∃ p, p ++ nl r = all ∧ Fed wr B t p
  keep : Kq.Keeps (· = B) w wr
set_option maxRecDepth 100000 in
set_option maxHeartbeats 4000000 in
theorem sh_add (B : Nat) (t : TypeId) (l : List Nat) (s : ByteArray) (w : World) (h : Fed w B t l) (hs : l.length + s.size ≤ 1000000000) :
    Calls Tryz.prog 164 #[.pointer (some ⟨B, 0, none⟩), .string s] w fun x w' => x = .returned (.tuple #[]) ∧ Fed w' B t (l ++ nl s) ∧ Kq.Keeps (· = B) w w' := by
  have H := Lib.hid h
  have HL : Hid ((l ++ nl s).length ≤ 1000000000) := Lib.hid (by rw [List.length_append]; simpa [nl] using hs)
  clear h hs
  go_enter Tryz.func164, Tryz.ntmps164
  go_wp2
  go_loopw [1] (fun v wr => ∃ r : ByteArray, v = .string r ∧ AddI w B t (l ++ nl s) r wr) (fun v _ => match v with | .string r => r.size | _ => 0)
  case atStart => exact ⟨s, rfl, ⟨l, rfl, H.out⟩, Kq.Keeps.refl _ _⟩
  case round =>
    obtain ⟨r, rfl, hI⟩ := hrel
    have HI := Lib.hid hI
    obtain ⟨p, hp, hF⟩ := hI.ex
    obtain ⟨ws, b, hS, hO⟩ := hF.ex
    have HS := Lib.hid hS
    have HO := Lib.hid hO
    have HP := Lib.hid hp
    have hnr : (nl r).length = r.size := by simp [nl]
    have hpl : p.length + r.size ≤ 1000000000 := by have := HL.out; rw [← hp, List.length_append, hnr] at this; exact this
    clear hI hF hS hO hp
    by_cases h0 : 0 < r.size
    · obtain ⟨n, hn⟩ : ∃ n, n = p.length := ⟨_, rfl⟩
      rw [← hn] at hpl HS
      have HN := Lib.hid hn
      clear hn
      obtain ⟨q, hq⟩ : ∃ q, q = n % 64 := ⟨_, rfl⟩
      have hq64 : q < 64 := by omega
      obtain ⟨m, hm⟩ : ∃ m, m = Nat.min r.size (64 - q) := ⟨_, rfl⟩
      have hm1 : m ≤ r.size := by rw [hm]; exact Nat.min_le_left _ _
      have hm2 : m ≤ 64 - q := by rw [hm]; exact Nat.min_le_right _ _
      have hm3 : 0 < m := by rw [hm]; exact Nat.lt_min.2 ⟨h0, by omega⟩
      have d0 : (0 : Int) < (r.size : Int) := by omega
      have c72 := HS.out.len
      have e1 : (n : Int) % 64 = (q : Int) := by omega
      have e2 : (n : Int).tmod 64 = (q : Int) := by rw [Int.tmod_eq_emod_of_nonneg (by omega)]; omega
      have hsl := fun w => slice_from w B q hq64
      have hst : StS wr.drew B t ws b n := HS.out.below ⟨rfl, rfl, rfl, Nat.le_refl _, fun _ _ => rfl⟩
      have hlt : ∀ x ∈ (nl r).take m, x < 256 := fun x hx => nl_lt r x (List.mem_of_mem_take hx)
      have hml : ((nl r).take m).length = m := by rw [List.length_take, hnr]; exact Nat.min_eq_left hm1
      have hput := hst.put q ((nl r).take m) (by rw [hml]; omega) hlt
      rw [hml] at hput
      obtain ⟨w5, hw5⟩ : ∃ z, z = wr.drew.setRow B ((stc ws b n).toList.take (8 + q) ++ bcl ((nl r).take m) ++ (stc ws b n).toList.drop (8 + q + m)).toArray := ⟨_, rfl⟩
      have hcp : (Builtin.copy_ #[157, 9] 3 #[.slice (some ⟨B, 8 + q, none⟩) (64 - q) (64 - q), .string r]).run Tryz.prog wr.drew = .ok (goInt m) w5 := by
        rw [hw5]
        exact copy_min wr.drew 157 9 3 5 B (8 + q) (64 - q) (64 - q) m r (stc ws b n) t Tryz.underlying157 (by kernel_rfl) HS.out.blk hm (by rw [stc_size ws b n HS.out.w8 HS.out.b64]; omega)
      have H5 : Hid (StS w5 B t ws (b.take q ++ (nl r).take m ++ b.drop (q + m)) n ∧ Kq.Keeps (· = B) wr w5) := Lib.hid (by
        rw [hw5]
        exact ⟨hput.1, (Kq.Keeps.refl (· = B) wr).drew.trans hput.2⟩)
      have HM := Lib.hid (And.intro hq (And.intro hq64 (And.intro hm1 (And.intro hm2 hm3))))
      have HLT := Lib.hid (And.intro hlt hml)
      clear hput hw5 hst hlt hml hm hq
      go_wp2
      go_still_tail 10, (by kernel_rfl)
      change wpList _ _ _ _ _ wr.drew
      clear hsl c72
      have c72 := H5.out.1.len
      have f72 : w5.frozen? ⟨B, 72, none⟩ = false := Kq.blk_free H5.out.1.blk 72
      have g0 : (m : Int) ≤ (r.size : Int) := by have := HM.out.2.2.1; omega
      have g1 : IntKind.i64.wrap ((n : Int) + (m : Int)) = ((n + m : Nat) : Int) := by rw [IntWalk.i64_in _ (by omega)]; omega
      have g2 : (((n + m : Nat) : Int)) % 64 = (((n + m) % 64 : Nat) : Int) := by omega
      have g3 : (((n + m : Nat) : Int)).tmod 64 = (((n + m) % 64 : Nat) : Int) := by rw [Int.tmod_eq_emod_of_nonneg (by omega)]; omega
      have g4 : (n : Int) + (m : Int) = ((n + m : Nat) : Int) := by omega
      have H6 := Lib.hid (H5.out.1.setLen (n + m))
      have HZ : Hid ((q + m = 64 ∧ (n + m) % 64 = 0) ∨ (q + m < 64 ∧ (n + m) % 64 = q + m)) := Lib.hid (by have := HM.out.1; have := HM.out.2; omega)
      obtain ⟨z, hz⟩ : ∃ z, z = (n + m) % 64 := ⟨_, rfl⟩
      rw [← hz] at g2 g3 HZ
      clear hz
      obtain ⟨nm, hnm⟩ : ∃ nm, nm = n + m := ⟨_, rfl⟩
      rw [← hnm] at g1 g2 g3 g4 H6
      have HNM := Lib.hid hnm
      have hnb : nm ≤ 1000000000 := by have := HM.out.2.2.1; omega
      clear hnm
      obtain ⟨w6, hw6⟩ : ∃ x, x = w5.setCell ⟨B, 72, none⟩ (.int .i64 (nm : Int)) := ⟨_, rfl⟩
      rw [← hw6] at H6
      have c6 := H6.out.1.len
      have hrz : (r.extract m r.size).size = r.size - m := by simp
      have HRZ := Lib.hid hrz
      have HNR : Hid (nl (r.extract m r.size) = (nl r).drop m) := Lib.hid (by rw [nl_extract, List.take_of_length_le (by rw [List.length_drop, hnr]; exact Nat.le_refl _)])
      have HNL := Lib.hid hnr
      have HW6 := Lib.hid hw6
      clear hw6 hrz hnr e1 e2
      rcases HZ.out with hzz | hzz
      · rw [hzz.2] at g2 g3
        have HZ1 := Lib.hid hzz.1
        clear hzz HZ
        go_wp2_with fail
        rw [← HW6.out]
        refine (sh_mix B t ws _ nm w6 H6.out.1).mono ?_
        rintro x w7 ⟨rfl, h7, k7⟩
        have HN : Hid (AddI w B t (l ++ nl s) (r.extract m r.size) w7) := Lib.hid (by
          have hpl2 : (p ++ (nl r).take m).length = nm := by rw [List.length_append, HLT.out.2, ← HN.out, HNM.out]
          have ho := HO.out.full HS.out.b64 ((nl r).take m) (by rw [HLT.out.2, ← HN.out, ← HM.out.1]; exact HZ1.out)
          rw [HLT.out.2, ← HN.out, ← HM.out.1] at ho
          refine ⟨⟨p ++ (nl r).take m, by rw [HNR.out, List.append_assoc, List.take_append_drop]; exact HP.out, ⟨_, _, by rw [hpl2]; exact h7, ho⟩⟩, ?_⟩
          exact ((HI.out.keep.trans H5.out.2).trans H6.out.2).trans k7)
        clear h7 k7 c72 f72 g0 g1 g2 g3 g4 c6
        go_wp2
        go_roundw
        case rel => exact ⟨_, rfl, HN.out⟩
        case measure => have := HM.out.2.2.1; have := HM.out.2.2.2.2; simp; omega
      · have zz : ¬ ((z : Int) = 0) := by have := HM.out.2.2.2.2; omega
        have zz2 : ¬ z = 0 := by have := HM.out.2.2.2.2; omega
        have HZ1 := Lib.hid hzz
        have HN : Hid (AddI w B t (l ++ nl s) (r.extract m r.size) w6) := Lib.hid (by
          have hpl2 : (p ++ (nl r).take m).length = nm := by rw [List.length_append, HLT.out.2, ← HN.out, HNM.out]
          have ho := HO.out.less HS.out.b64 ((nl r).take m) (by rw [HLT.out.2, ← HN.out, ← HM.out.1]; exact hzz.1)
          rw [HLT.out.2, ← HN.out, ← HM.out.1] at ho
          refine ⟨⟨p ++ (nl r).take m, by rw [HNR.out, List.append_assoc, List.take_append_drop]; exact HP.out, ⟨_, _, by rw [hpl2]; exact H6.out.1, ho⟩⟩, ?_⟩
          exact (HI.out.keep.trans H5.out.2).trans H6.out.2)
        rw [HW6.out] at HN
        clear hzz HZ
        go_wp2
        clear c72 f72 g0 g1 g2 g3 g4 c6 zz zz2
        go_roundw
        case rel => exact ⟨_, rfl, HN.out⟩
        case measure => have := HM.out.2.2.1; have := HM.out.2.2.2.2; simp; omega
    · have d0 : ¬ ((0 : Int) < (r.size : Int)) := by omega
      have hnil : nl r = [] := List.eq_nil_of_length_eq_zero (by rw [hnr]; omega)
      rw [hnil, List.append_nil] at HP
      have HF : Hid (Fed wr B t (l ++ nl s)) := Lib.hid (by rw [← HP.out]; exact ⟨_, _, HS.out, HO.out⟩)
      clear hnil hnr hpl
      go_wp2
      go_end0
      exact ⟨rfl, HF.out, HI.out.keep⟩
end Go.Proofs.YtbjchfcoacmaaaaGreatDoor
