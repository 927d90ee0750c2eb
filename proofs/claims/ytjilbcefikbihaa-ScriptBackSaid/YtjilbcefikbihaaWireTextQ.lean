/- Contracts of wire's Writer.Text, Writer.Bytes. Condition: lengths within the reach of memory. -/
import Derived.Test.YtjilbcefikbihaaWireNumQ
namespace Go.Proofs.Ytjilbcefikbihaa
open Go.RowKit
set_option linter.unusedVariables false
set_option maxRecDepth 100000 in
set_option maxHeartbeats 1600000 in
theorem wr_text_ok (base B : Nat) (e : Int) (v : Value) (l : List Nat) (s : ByteArray) (w : World) (h : Wr w base B e v l) (hs : s.size ≤ 65535) (hl : l.length ≤ 140737488200000) :
    Calls Try.prog 69 #[.pointer (some ⟨B, 0, none⟩), .string s] w (WrAny w base B v e (l ++ hi2 s.size ++ nl s)) := by
  obtain ⟨i0, hi, hz0, hz1, hz2⟩ := info_parts info8
  have c1 : w.cell? ⟨B, 1, none⟩ = some v := h.c1
  have hB := Kq.blk_lt h.blk
  have H := Lib.hid h
  clear h
  go_enter Try.func69, Try.ntmps69
  go_wp2_with (at_builtin; refine Kq.wpList_append_any _ rfl (.tmp 15) (.tmp 23) 76 76 rfl base 5 i0 (.int .u8 0) 1 1 Try.underlying76 hi hz0 hz1 hz2 rfl (by decide) v l.length (bcells l) rfl (H.out.own.alloc _) (.slice (some ⟨w.heap.size, 0, none⟩) 2 2) 2 (bcells (hi2 s.size)) rfl ?hs ?h1 ?h2 ?h3 ?_)
  case hs => exact src_row w Try.underlying76 (hi2 s.size) 2
  case h1 => unfold maxLen; omega
  case h2 => omega
  case h3 => have := H.out.base; simp; omega
  intro v' w1 hown1 hgrow hfresh
  have hm := H.out.mid (Kq.below_alloc w _) hgrow
  have c1' : w1.cell? ⟨B, 1, none⟩ = some v := Kq.blk_cell hm 1
  have f1' : w1.frozen? ⟨B, 1, none⟩ = false := Kq.blk_free hm 1
  have HP := Lib.hid (H.out.close (ns := hi2 s.size) (Kq.below_alloc w _) hown1 hgrow (by simpa using hfresh))
  obtain ⟨a', n', cap', hv⟩ := Kq.own_shape hown1
  clear hm hown1 hgrow hfresh c1 hB
  rw [hv] at HP ⊢
  clear hv
  obtain ⟨v2, HM⟩ := (WrMid.start H.out).step HP.out.any
  have HM := Lib.hid HM
  have hlen : (l ++ hi2 s.size).length + s.size ≤ 140737488350000 := by rw [List.length_append]; have : (hi2 s.size).length = 2 := rfl; omega
  have hlen := Lib.hid hlen
  go_wp2_with fail
  refine (wr_raw base B e v2 (l ++ hi2 s.size) s _ HM.out.it hlen.out).mono ?_
  rintro x w3 ⟨rfl, H3⟩
  obtain ⟨v3, HM3⟩ := HM.out.step (WrPost.any (x := .returned (.tuple #[])) ⟨rfl, H3⟩)
  have HM3 := Lib.hid HM3.post
  clear H3 c1' f1'
  go_wp2
  go_end0
  exact HM3.out
set_option maxRecDepth 100000 in
set_option maxHeartbeats 800000 in
theorem wr_text_bad (base B : Nat) (e : Int) (v : Value) (l : List Nat) (s : ByteArray) (w : World) (h : Wr w base B e v l) (hs : 65535 < s.size) :
    Calls Try.prog 69 #[.pointer (some ⟨B, 0, none⟩), .string s] w (WrAny w base B v (keepE e 1) l) := by
  have hd : (65535 : Int) < (s.size : Int) := by omega
  go_enter Try.func69, Try.ntmps69
  go_wp2_with fail
  refine (wr_fail base B e 1 v l _ h).mono ?_
  rintro x w2 ⟨rfl, H2⟩
  have HP : WrAny w base B v (keepE e 1) l (.returned (.tuple #[])) w2 := ⟨rfl, H2⟩
  have HP := Lib.hid HP
  clear H2
  go_wp2
  first | go_end0 | refine bodyPost_ret (results_none rfl _ _ _) rfl ?_
  exact HP.out
theorem add_flat' (b off i : Nat) : (⟨b, off, none⟩ : Addr).add i = ⟨b, off + i, none⟩ := by unfold Addr.add; split <;> simp_all
/-- what was written, as a text -/
theorem own_conv {w : World} {base : Nat} {v : Value} {l : List Nat} (h : w.ownsRow base 5 1 v l.length (bcells l)) (hl : ∀ b ∈ l, b < 256) :
    (convert 76 9 v).run Try.prog w = .ok (.string (txt l)) w := by
  have hc := fun g hg => h.cells (g := g) hg
  rcases h.2 with ⟨rfl, h0⟩ | ⟨g, cap, cur, rfl, _⟩
  · have : l = [] := List.eq_nil_of_length_eq_zero h0
    subst this
    exact Kq.conv_bytes_none w 0 Try.underlying76 Try.underlying5 Try.underlying9
  · have hc := hc g rfl
    have hcell : ∀ j (hj : j < l.length), w.cell? ⟨g, j, none⟩ = some (.int .u8 ((l[j] : Nat) : Int)) := fun j hj => by
      have := hc j (.int .u8 ((l[j] : Nat) : Int)) (by simp [bcells, hj])
      rwa [add_flat', Nat.zero_add] at this
    have := Kq.conv_bytes (P := Try.prog) w (src := 76) (dst := 9) (e := 5) ⟨g, 0, none⟩ (l.map UInt8.ofNat) cap Try.underlying76 Try.underlying5 Try.underlying9 (fun j u hj => by
      have hj' : j < l.length := by
        rcases Nat.lt_or_ge j l.length with h' | h'
        · exact h'
        · rw [List.getElem?_eq_none (by simpa using h')] at hj; cases hj
      rw [add_flat', Nat.zero_add, hcell j hj', ← hj]
      have := hl l[j] (List.getElem_mem _)
      simp [hj', Nat.mod_eq_of_lt this])
    rwa [List.length_map] at this
set_option maxRecDepth 100000 in
set_option maxHeartbeats 800000 in
theorem wr_bytes_ok (base B : Nat) (v : Value) (l : List Nat) (w : World) (h : Wr w base B 0 v l) (hl : ∀ b ∈ l, b < 256) :
    Calls Try.prog 22 #[.pointer (some ⟨B, 0, none⟩)] w fun x w' => x = .returned (.tuple #[.string (txt l), .int .i64 0]) ∧ w = w' := by
  have c1 : w.cell? ⟨B, 1, none⟩ = some v := h.c1
  have hcv := own_conv h.own hl
  obtain ⟨a', n', cap', hv⟩ := Kq.own_shape h.own
  subst hv
  go_enter Try.func22, Try.ntmps22
  go_wp2_with fail
  refine (mem_err B 0 _ h.c0).mono ?_
  rintro x w3 ⟨rfl, rfl⟩
  go_wp2
  go_ret2
  exact ⟨rfl, rfl⟩
set_option maxRecDepth 100000 in
set_option maxHeartbeats 800000 in
theorem wr_bytes_bad (base B : Nat) (e : Int) (v : Value) (l : List Nat) (w : World) (h : Wr w base B e v l) (he : e ≠ 0) :
    Calls Try.prog 22 #[.pointer (some ⟨B, 0, none⟩)] w fun x w' => x = .returned (.tuple #[.string ⟨#[]⟩, .int .i64 e]) ∧ w = w' := by
  have hne' : (e != 0) = true := by simpa using he
  clear he
  go_enter Try.func22, Try.ntmps22
  go_wp2_with fail
  refine (mem_err B e _ h.c0).mono ?_
  rintro x w3 ⟨rfl, rfl⟩
  go_wp2_with fail
  refine (mem_err B e _ h.c0).mono ?_
  rintro x w3 ⟨rfl, rfl⟩
  go_wp2
  go_ret2
  exact ⟨rfl, rfl⟩
end Go.Proofs.Ytjilbcefikbihaa
