/- Contracts of crc.Seal, crc.Right; condition: lengths are ints. -/
import Derived.Deep.RegionWith
import Derived.Test.YtfbjfleagilikaaCrcSum
namespace Go.Proofs.Ytfbjfleagilikaa
open Go.RowKit
theorem crc_sum1 (b : Nat) (s : ByteArray) (w : World) (hb : b < w.heap.size) (hs : s.size ≤ maxLen) (hc : w.cell? ⟨b, 0, none⟩ = some (.string s)) :
    Calls Try.prog 29 #[.slice (some ⟨b, 0, none⟩) 1 1] w fun e w' => e = .returned (.int .u32 ((CrcM.upd 0 (nl s) : Nat) : Int)) ∧ Below w.heap.size w w' :=
  crc_sum b 1 [s] w hb (by simp [maxLen]) (by simpa using hs) (fun j h => by
    have : j = 0 := by simpa using h
    subst this; exact hc)
theorem crc_sum2 (b : Nat) (s t : ByteArray) (w : World) (hb : b < w.heap.size) (hs : s.size ≤ maxLen) (ht : t.size ≤ maxLen) (hc : w.cell? ⟨b, 0, none⟩ = some (.string s)) (hd : w.cell? ⟨b, 1, none⟩ = some (.string t)) :
    Calls Try.prog 29 #[.slice (some ⟨b, 0, none⟩) 2 2] w fun e w' => e = .returned (.int .u32 ((CrcM.upd (CrcM.upd 0 (nl s)) (nl t) : Nat) : Int)) ∧ Below w.heap.size w w' :=
  crc_sum b 2 [s, t] w hb (by simp [maxLen]) (by simp [hs, ht]) (fun j h => by
    have : j = 0 ∨ j = 1 := by simp at h; omega
    rcases this with rfl | rfl
    · exact hc
    · exact hd)
def sealT (s : ByteArray) : ByteArray := s ++ txt (CrcM.bytes (CrcM.upd 0 (nl s)))
set_option maxRecDepth 100000 in
theorem crc_seal (s : ByteArray) (w : World) (hs : s.size + 4 ≤ maxLen) :
    Calls Try.prog 18 #[.string s] w fun e w' => e = .returned (.string (sealT s)) ∧ Below w.heap.size w w' := by
  unfold maxLen at hs
  have hs' : s.size ≤ maxLen := by unfold maxLen; omega
  have hlen : ¬ 9223372036854775807 < s.size + (txt (CrcM.bytes (CrcM.upd 0 (nl s)))).size := by rw [txt_size, CrcM.bytes_length]; omega
  go_enter Try.func18, Try.ntmps18
  go_wp2_with fail
  refine (crc_sum1 _ s _ (by simp) hs' (by simp)).mono ?_
  rintro e w1 ⟨rfl, hb1⟩
  go_wp2_with fail
  refine (crc_bytes _ _).mono ?_
  rintro e w2 ⟨rfl, hb2⟩
  go_wp2
  go_ret
  have hs1 := hb1.size
  simp only [World.size_alloc] at hs1
  exact ⟨rfl, ((Kq.below_alloc _ _).trans (hb1.mono (by simp))).trans (hb2.mono (by omega))⟩
/-- is a text sealed? as the code asks -/
def rightB (s : ByteArray) : Bool := (txt (CrcM.bytes (CrcM.upd 0 (nl (s.extract 0 (s.size - 4)))))).toList == (s.extract (s.size - 4) s.size).toList
set_option maxRecDepth 100000 in
set_option maxHeartbeats 400000 in
theorem crc_right (s : ByteArray) (w : World) (hs : s.size ≤ maxLen) (h4 : 4 ≤ s.size) :
    Calls Try.prog 24 #[.string s] w fun e w' => e = .returned (.bool (rightB s)) ∧ Below w.heap.size w w' := by
  unfold maxLen at hs
  go_enter Try.func24, Try.ntmps24
  go_wp2_with fail
  rw [show ((s.size : Int) - 4) = ((s.size - 4 : Nat) : Int) from by omega]
  have hle : s.size - 4 ≤ s.size := by omega
  have hex : (s.extract 0 (s.size - 4)).size ≤ maxLen := by simp [maxLen]; omega
  have hR : Hid (rightB s = ((txt (CrcM.bytes (CrcM.upd 0 (nl (s.extract 0 (s.size - 4)))))).toList == (s.extract (s.size - 4) s.size).toList)) := Lib.hid rfl
  generalize s.size - 4 = n at *
  have hd : decide ((0 : Int) ≤ (n : Int)) = true := by simp
  refine wp_region_any (by kernel_rfl) ?_
  (try (change wpAny _ _ _ _ _ _ _ (World.drew _)))
  refine wpAny_take (i := 0) (v := ?_) rfl (by kernel_rfl) (by kernel_rfl) (by kernel_rfl) (fun _ _ _ h => h) (Or.inl ⟨by kernel_rfl, ?_⟩) ?_
  rotate_left
  · intro w; go_simp; with_reducible rfl
  refine wpAny_take (i := 1) (v := ?_) rfl (by kernel_rfl) (by kernel_rfl) (by kernel_rfl) (fun _ _ _ h => h) (Or.inl ⟨by kernel_rfl, ?_⟩) ?_
  rotate_left
  · intro w; go_simp; with_reducible rfl
  refine wpAny_take (i := 2) (v := ?_) rfl (by kernel_rfl) (by kernel_rfl) (by kernel_rfl) (fun _ _ _ h => h) (Or.inl ⟨by kernel_rfl, ?_⟩) ?_
  rotate_left
  · intro w; go_simp; with_reducible rfl
  refine wpAny_take (i := 3) (v := ?_) rfl (by kernel_rfl) (by kernel_rfl) (by kernel_rfl) (fun _ _ _ h => h) (Or.inl ⟨by kernel_rfl, ?_⟩) ?_
  rotate_left
  · intro w; go_simp; with_reducible rfl
  refine wpAny_take (i := 4) (v := ?_) rfl (by kernel_rfl) (by kernel_rfl) (by kernel_rfl) (fun _ _ _ h => h) (Or.inl ⟨by kernel_rfl, ?_⟩) ?_
  rotate_left
  · intro w; go_simp; with_reducible rfl
  refine wpAny_take (i := 5) (v := ?_) rfl (by kernel_rfl) (by kernel_rfl) (by kernel_rfl) (fun _ _ _ h => h) (Or.inl ⟨by kernel_rfl, ?_⟩) ?_
  rotate_left
  · intro w; go_simp; with_reducible rfl
  refine wpAny_take (i := 9) (v := ?_) rfl (by kernel_rfl) (by kernel_rfl) (by kernel_rfl) (fun _ _ _ h => h) (Or.inl ⟨by kernel_rfl, ?_⟩) ?_
  rotate_left
  · intro w; go_simp; with_reducible rfl
  refine wpAny_take (i := 10) (v := ?_) rfl (by kernel_rfl) (by kernel_rfl) (by kernel_rfl) (fun _ _ _ h => h) (Or.inl ⟨by kernel_rfl, ?_⟩) ?_
  rotate_left
  · intro w; go_simp; with_reducible rfl
  refine wpAny_take (i := 11) (v := ?_) rfl (by kernel_rfl) (by kernel_rfl) (by kernel_rfl) (fun _ _ _ h => h) (Or.inl ⟨by kernel_rfl, ?_⟩) ?_
  rotate_left
  · intro w; go_simp; with_reducible rfl
  refine wpAny_ready (rs := [6]) (by kernel_rfl) (by simp) ?_
  refine AllReady.cons rfl (fun K hK => ?_) AllReady.nil
  go_simp
  (first | (refine hK _ _ ?_; clear hK K) | skip)
  refine wpAny_ready (rs := [7]) (by kernel_rfl) (by simp) ?_
  refine AllReady.cons rfl (fun K hK => ?_) AllReady.nil
  go_simp
  go_wp2_with (go_at_call 29; refine (crc_sum1 _ (s.extract 0 n) _ (by show w.heap.size < (w.alloc _).heap.size; simp) hex (by show (w.alloc _).cell? _ = _; simp)).mono ?_; rintro e w1 ⟨rfl, hb1⟩)
  (first | (refine hK _ _ ?_; clear hK K) | skip)
  refine wpAny_ready (rs := [8]) (by kernel_rfl) (by simp) ?_
  refine AllReady.cons rfl (fun K hK => ?_) AllReady.nil
  go_simp
  go_wp2_with (go_at_call 28; refine (crc_bytes _ _).mono ?_; rintro e w2 ⟨rfl, hb2⟩)
  (first | (refine hK _ _ ?_; clear hK K) | skip)
  refine wpAny_take (i := 12) (v := ?_) rfl (by kernel_rfl) (by kernel_rfl) (by kernel_rfl) (fun _ _ _ h => h) (Or.inl ⟨by kernel_rfl, ?_⟩) ?_
  rotate_left
  · intro w; go_simp; with_reducible rfl
  refine wpAny_take (i := 13) (v := ?_) rfl (by kernel_rfl) (by kernel_rfl) (by kernel_rfl) (fun _ _ _ h => h) (Or.inl ⟨by kernel_rfl, ?_⟩) ?_
  rotate_left
  · intro w; go_simp; with_reducible rfl
  refine wpAny_ready (rs := [14]) (by kernel_rfl) (by simp) ?_
  refine AllReady.cons rfl (fun K hK => ?_) AllReady.nil
  go_simp
  (first | (refine hK _ _ ?_; clear hK K) | skip)
  refine wpAny_done (by kernel_rfl) ?_ _
  go_wp2
  go_ret
  have hs1 := hb1.size
  have e1 : (w.alloc (Obj.cells #[Value.string (s.extract 0 n)] 9)).drew.heap.size = w.heap.size + 1 := by show (w.alloc _).heap.size = _; simp
  rw [e1] at hs1 hb1
  exact ⟨by rw [hR.out]; rfl, ((Kq.below_alloc _ _).drew.trans (hb1.mono (by omega))).trans (hb2.mono (by omega))⟩
end Go.Proofs.Ytfbjfleagilikaa
