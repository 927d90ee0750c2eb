/- Mathematics of tables: what is made of a table's own items. No condition. -/
import Derived.Test.YtkbiolhcpghmkaaTbOfQ
namespace Go.Proofs.Ytkbiolhcpghmkaa
open Go.RowKit Go.Kq
set_option linter.unusedVariables false
theorem plc_all : ∀ (l : List NtV) (k : NmV), (∀ q ∈ l, ltN q.nm k = true) → tbR.plc l k = l.length
  | [], k, _ => rfl
  | p :: l, k, h => by
    rw [Ord.plc_cons, if_pos (show tbR.lt (tbR.key p) k = true from h p List.mem_cons_self), plc_all l k (fun q hq => h q (List.mem_cons_of_mem _ hq))]
    rfl
theorem ofL_app : ∀ (l acc : List NtV), tbR.Sort (acc ++ l) → ofL acc l = some (acc ++ l)
  | [], acc, _ => by rw [List.append_nil]; rfl
  | n :: l, acc, h => by
    have hall : ∀ q ∈ acc, ltN q.nm n.nm = true := fun q hq => (List.pairwise_append.1 h).2.2 q hq n List.mem_cons_self
    have hno : tbR.look acc n.nm = none := Ord.look_none acc n.nm (fun q hq => Ord.ne (R := tbR) (hall q hq))
    have hacc : tbR.Sort acc := (List.pairwise_append.1 h).1
    have hins : tbR.ins acc n = acc ++ [n] := by
      rw [Ord.ins_new acc n hacc hno, show tbR.plc acc (tbR.key n) = acc.length from plc_all acc n.nm hall, List.take_length, List.drop_length, List.append_nil]
    show (if (tbR.look acc n.nm).isSome = true then none else ofL (tbR.ins acc n) l) = _
    rw [hno, if_neg (by simp), hins, ofL_app l (acc ++ [n]) (by rw [List.append_assoc]; exact h), List.append_assoc]
    rfl
theorem ofV_same {s : TbV} (h : TbOk s) : ofV (s.room : Int) s.l = (0, some s.l) := by
  have hr : 1 ≤ (s.room : Int) ∧ (s.room : Int) ≤ 40 := by have := h.r1; have := h.r40; omega
  rw [ofV_l hr (fun n hn => (h.ok n hn).1), ofL_app s.l [] h.sort]
  show (if (s.room : Int) < (s.l.length : Int) then _ else _) = _
  rw [if_neg (by have := h.len; omega)]
  rfl
end Go.Proofs.Ytkbiolhcpghmkaa
