/- Contracts of wire's Writer.Text, Writer.Bytes. Condition: lengths within the reach of memory. -/
import Derived.Test.YtejhlommjgibmaaWireNum
namespace Go.Proofs.Ytejhlommjgibmaa
open Go.RowKit
set_option linter.unusedVariables false
def hi2 (n : Nat) : List Nat := [n / 256, n % 256]
theorem add_flat' (b off i : Nat) : (⟨b, off, none⟩ : Addr).add i = ⟨b, off + i, none⟩ := by unfold Addr.add; split <;> simp_all
/-- what was written, as a text -/
theorem own_conv {w : World} {base : Nat} {v : Value} {l : List Nat} (h : w.ownsRow base 5 1 v l.length (bcells l)) (hl : ∀ b ∈ l, b < 256) :
    (convert 44 9 v).run Try.prog w = .ok (.string (txt l)) w := by
  have hc := fun g hg => h.cells (g := g) hg
  rcases h.2 with ⟨rfl, h0⟩ | ⟨g, cap, cur, rfl, _⟩
  · have : l = [] := List.eq_nil_of_length_eq_zero h0
    subst this
    exact Kq.conv_bytes_none w 0 Try.underlying44 Try.underlying5 Try.underlying9
  · have hc := hc g rfl
    have hcell : ∀ j (hj : j < l.length), w.cell? ⟨g, j, none⟩ = some (.int .u8 ((l[j] : Nat) : Int)) := fun j hj => by
      have := hc j (.int .u8 ((l[j] : Nat) : Int)) (by simp [bcells, hj])
      rwa [add_flat', Nat.zero_add] at this
    have := Kq.conv_bytes (P := Try.prog) w (src := 44) (dst := 9) (e := 5) ⟨g, 0, none⟩ (l.map UInt8.ofNat) cap Try.underlying44 Try.underlying5 Try.underlying9 (fun j u hj => by
      have hj' : j < l.length := by
        rcases Nat.lt_or_ge j l.length with h' | h'
        · exact h'
        · rw [List.getElem?_eq_none (by simpa using h')] at hj; cases hj
      rw [add_flat', Nat.zero_add, hcell j hj', ← hj]
      have := hl l[j] (List.getElem_mem _)
      simp [hj', Nat.mod_eq_of_lt this])
    rwa [List.length_map] at this
set_option maxRecDepth 100000 in
set_option maxHeartbeats 800000 in
theorem wr_bytes_ok (base B : Nat) (v : Value) (l : List Nat) (w : World) (h : Wr w base B 0 v l) (hl : ∀ b ∈ l, b < 256) :
    Calls Try.prog 20 #[.pointer (some ⟨B, 0, none⟩)] w fun x w' => x = .returned (.tuple #[.string (txt l), .int .i64 0]) ∧ w = w' := by
  have c1 : w.cell? ⟨B, 1, none⟩ = some v := h.c1
  have hcv := own_conv h.own hl
  obtain ⟨a', n', cap', hv⟩ := Kq.own_shape h.own
  subst hv
  go_enter Try.func20, Try.ntmps20
  go_wp2_with fail
  refine (mem_err B 0 _ h.c0).mono ?_
  rintro x w3 ⟨rfl, rfl⟩
  go_wp2
  go_ret2
  exact ⟨rfl, rfl⟩
set_option maxRecDepth 100000 in
set_option maxHeartbeats 800000 in
theorem wr_bytes_bad (base B : Nat) (e : Int) (v : Value) (l : List Nat) (w : World) (h : Wr w base B e v l) (he : e ≠ 0) :
    Calls Try.prog 20 #[.pointer (some ⟨B, 0, none⟩)] w fun x w' => x = .returned (.tuple #[.string ⟨#[]⟩, .int .i64 e]) ∧ w = w' := by
  have hne' : (e != 0) = true := by simpa using he
  clear he
  go_enter Try.func20, Try.ntmps20
  go_wp2_with fail
  refine (mem_err B e _ h.c0).mono ?_
  rintro x w3 ⟨rfl, rfl⟩
  go_wp2_with fail
  refine (mem_err B e _ h.c0).mono ?_
  rintro x w3 ⟨rfl, rfl⟩
  go_wp2
  go_ret2
  exact ⟨rfl, rfl⟩
end Go.Proofs.Ytejhlommjgibmaa
