/- Plain mathematics of wire: what a reader's calls tell. No condition. -/
import Derived.Test.YtnbapiddbcaolaaDoorTxt
namespace WireM
/-- bytes as a number, the highest first -/
def val (l : List Nat) : Nat := l.foldl (fun n b => n * 256 + b) 0
/-- so many bytes of a text ahead of which a reader stands that remembers e: what is told, what is remembered, what is left -/
def raw (e : Int) (s : ByteArray) (n : Int) : ByteArray × Int × ByteArray :=
  if n < 0 ∨ (s.size : Int) < n then (⟨#[]⟩, (if e = 0 then 6 else e), s)
  else if e = 0 then (s.extract 0 n.toNat, 0, s.extract n.toNat s.size) else (⟨#[]⟩, e, s)
theorem val_lt (l : List Nat) (hl : ∀ b ∈ l, b < 256) : val l < 256 ^ l.length := by
  suffices h : ∀ (l : List Nat) (n k : Nat), (∀ b ∈ l, b < 256) → n < 256 ^ k → l.foldl (fun n b => n * 256 + b) n < 256 ^ (k + l.length) by
    have := h l 0 0 hl (by decide)
    simpa [val] using this
  intro l
  induction l with
  | nil => intro n k _ h; simpa using h
  | cons b l ih =>
    intro n k hb h
    have h1 : n * 256 + b < 256 ^ (k + 1) := by
      have := hb b (List.mem_cons_self ..)
      rw [Nat.pow_succ]; omega
    have := ih (n * 256 + b) (k + 1) (fun c hc => hb c (List.mem_cons_of_mem _ hc)) h1
    rw [List.foldl_cons, List.length_cons]
    rwa [show k + (l.length + 1) = k + 1 + l.length by omega]
theorem raw_bad (e : Int) (s : ByteArray) (n : Int) (h : n < 0 ∨ (s.size : Int) < n) : raw e s n = (⟨#[]⟩, (if e = 0 then 6 else e), s) := by
  unfold raw; rw [if_pos h]
theorem raw_ok (s : ByteArray) (n : Nat) (h : n ≤ s.size) : raw 0 s n = (s.extract 0 n, 0, s.extract n s.size) := by
  unfold raw; rw [if_neg (by omega), if_pos rfl]; rfl
theorem raw_stuck (e : Int) (s : ByteArray) (n : Int) (h : e ≠ 0) : raw e s n = (⟨#[]⟩, e, s) := by
  unfold raw
  by_cases hb : n < 0 ∨ (s.size : Int) < n
  · rw [if_pos hb, if_neg h]
  · rw [if_neg hb, if_neg h]
end WireM
