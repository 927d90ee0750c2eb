/- Numbers as bytes, the highest first; contract of carrackref03.Bytes. Condition: eight bytes at most. -/
import Derived.WalkSpells
import Derived.Test.YtjilbcefikbihaaWireMQ
namespace Go.Proofs.Ytjilbcefikbihaa
open Go.RowKit
set_option linter.unusedVariables false
def M64 : Nat := 18446744073709551616
/-- the first k of the eight bytes of a number, the highest first -/
def num8 (n : Nat) : List Nat := [n / 72057594037927936 % 256, n / 281474976710656 % 256, n / 1099511627776 % 256, n / 4294967296 % 256, n / 16777216 % 256, n / 65536 % 256, n / 256 % 256, n % 256]
def hi2 (n : Nat) : List Nat := [n / 256, n % 256]
/-- so many bytes of a number, the highest first -/
def be (n k : Nat) : List Nat := ((List.range k).map fun j => n / 256 ^ j % 256).reverse
theorem be_succ (n k : Nat) : be n (k + 1) = (n / 256 ^ k % 256) :: be n k := by
  unfold be; rw [List.range_succ, List.map_append, List.reverse_append]; rfl
theorem be_len (n k : Nat) : (be n k).length = k := by simp [be]
theorem be_lt (n k : Nat) : ∀ b ∈ be n k, b < 256 := by
  intro b hb
  simp only [be, List.mem_reverse, List.mem_map] at hb
  obtain ⟨j, _, rfl⟩ := hb
  exact Nat.mod_lt _ (by decide)
theorem be8 (n : Nat) : be n 8 = num8 n := by simp [be, num8, List.range, List.range.loop]
theorem be2 (n : Nat) (h : n < 65536) : be n 2 = hi2 n := by
  simp [be, hi2, List.range, List.range.loop]; omega
theorem be1 (n : Nat) (h : n < 256) : be n 1 = [n] := by
  simp [be, List.range, List.range.loop]; omega
theorem txt_cons (b : Nat) (l : List Nat) (hb : b < 256) (hl : ∀ b ∈ l, b < 256) : txt [b] ++ txt l = txt (b :: l) := by
  apply nl_inj
  rw [nl_append, nl_txt _ hl, nl_txt _ (by simpa using hb), nl_txt _ (by intro x hx; exact (List.mem_cons.1 hx).elim (fun h => h ▸ hb) (hl x))]
  rfl
theorem q_int (v : Nat) (h : v < 18446744073709551616) : IntKind.u64.wrap ((v : Int) / 256) = ((v / 256 : Nat) : Int) := by
  rw [IntWalk.u64_in _ (by omega)]; rfl
set_option maxRecDepth 100000 in
set_option maxHeartbeats 2000000 in
theorem ref_num (n c : Nat) (w : World) (hn : n < M64) (hc : c ≤ 8) :
    Calls Try.prog 26 #[.int .u64 (n : Int), .int .i64 (c : Int)] w fun x w' => x = .returned (.string (txt (be n c))) ∧ Below w.heap.size w w' := by
  have HN := Lib.hid hn
  clear hn
  go_enter Try.func26, Try.ntmps26
  go_wp2
  go_loopw [0, 5, 6] (fun m s i wr => ∃ k : Nat, k ≤ c ∧ i = .int .i64 k ∧ m = .int .u64 ((n / 256 ^ k : Nat) : Int) ∧ s = .string (txt (be n k)) ∧ Below w.heap.size w wr) (fun _ _ i _ => c - (intOf i).toNat)
  case atStart => exact ⟨0, by omega, rfl, by rw [Nat.pow_zero, Nat.div_one], rfl, Below.refl _ _⟩
  case round =>
    obtain ⟨k, hk, rfl, rfl, rfl, hb⟩ := hrel
    by_cases hlt : k < c
    · have hS := Lib.hid (be_succ n k)
      have hT := Lib.hid (txt_cons (n / 256 ^ k % 256) (be n k) (Nat.mod_lt _ (by decide)) (be_lt n k))
      have hD : Hid (n / 256 ^ (k + 1) = n / 256 ^ k / 256) := Lib.hid (by rw [Nat.pow_succ, Nat.div_div_eq_div_mul])
      have hsz : (txt (be n k)).size ≤ 8 := by rw [txt_size, be_len]; omega
      have hv : n / 256 ^ k < M64 := Nat.lt_of_le_of_lt (Nat.div_le_self _ _) HN.out
      unfold M64 at hv
      have HV := Lib.hid hv
      have HQ : Hid (IntKind.u64.wrap (((n / 256 ^ k : Nat) : Int) / 256) = ((n / 256 ^ k / 256 : Nat) : Int)) := Lib.hid (q_int _ HV.out)
      clear hv
      have HB := Lib.hid hb
      clear hb
      have HLT := Lib.hid hlt
      generalize n / 256 ^ k = v at *
      generalize txt (be n k) = s at *
      obtain ⟨t, ht, htz, hcv⟩ : ∃ t, Hid (t = txt [v % 256]) ∧ t.size = 1 ∧ (convert 76 9 (.slice (some ⟨wr.heap.size, 0, none⟩) 1 1)).run Try.prog (wr.alloc (Obj.cells #[Value.int IntKind.u8 ((v : Int) % 256)] 5)) = .ok (.string t) (wr.alloc (Obj.cells #[Value.int IntKind.u8 ((v : Int) % 256)] 5)) := by
        refine ⟨_, Lib.hid rfl, by rw [txt_size]; rfl, ?_⟩
        have hcv := Kq.conv_bytes (P := Try.prog) (wr.alloc (Obj.cells #[Value.int IntKind.u8 ((v : Int) % 256)] 5)) (src := 76) (dst := 9) ⟨wr.heap.size, 0, none⟩ (([v % 256]).map UInt8.ofNat) 1 Try.underlying76 Try.underlying5 Try.underlying9
          (fun j u hj => Kq.cell_new _ _ _ (by
            rw [← hj, ← List.getElem?_toArray]
            congr 1
            simp))
        exact hcv
      rw [← ht.out] at hT
      go_wp2
      go_round
      case rel => exact ⟨k + 1, by have := HLT.out; omega, by go_num, by rw [hD.out, HQ.out], by rw [hS.out, ← hT.out], HB.out.trans ((Kq.below_alloc _ _).mono HB.out.size)⟩
      case measure => have := HLT.out; simp [intOf]; omega
    · have hk' : k = c := Nat.le_antisymm hk (Nat.not_lt.1 hlt)
      subst hk'
      have HB := Lib.hid hb
      clear hb
      go_wp2
      go_ret
      exact ⟨rfl, HB.out⟩
theorem num8_lt (n : Nat) : ∀ b ∈ num8 n, b < 256 := by rw [← be8]; exact be_lt n 8
end Go.Proofs.Ytjilbcefikbihaa
