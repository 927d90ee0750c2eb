/- Mathematics of TableSame; two tables of the program's side by side. No condition. -/
import Derived.Test.YtmckpoeolfggmaaTwWide
import Derived.Test.YtmckpoeolfggmaaTbOf
namespace Go.Proofs.Ytmckpoeolfggmaa
open Go.RowKit Go.Kq
set_option linter.unusedVariables false
theorem plc_all : ∀ (l : List NtV) (k : NmV), (∀ q ∈ l, ltN q.nm k = true) → tbR.plc l k = l.length
  | [], k, _ => rfl
  | p :: l, k, h => by
    rw [Ord.plc_cons, if_pos (show tbR.lt (tbR.key p) k = true from h p List.mem_cons_self), plc_all l k (fun q hq => h q (List.mem_cons_of_mem _ hq))]
    rfl
theorem ofL_app : ∀ (l acc : List NtV), tbR.Sort (acc ++ l) → ofL acc l = some (acc ++ l)
  | [], acc, _ => by rw [List.append_nil]; rfl
  | n :: l, acc, h => by
    have hall : ∀ q ∈ acc, ltN q.nm n.nm = true := fun q hq => (List.pairwise_append.1 h).2.2 q hq n List.mem_cons_self
    have hno : tbR.look acc n.nm = none := Ord.look_none acc n.nm (fun q hq => Ord.ne (R := tbR) (hall q hq))
    have hacc : tbR.Sort acc := (List.pairwise_append.1 h).1
    have hins : tbR.ins acc n = acc ++ [n] := by
      rw [Ord.ins_new acc n hacc hno, show tbR.plc acc (tbR.key n) = acc.length from plc_all acc n.nm hall, List.take_length, List.drop_length, List.append_nil]
    show (if (tbR.look acc n.nm).isSome = true then none else ofL (tbR.ins acc n) l) = _
    rw [hno, if_neg (by simp), hins, ofL_app l (acc ++ [n]) (by rw [List.append_assoc]; exact h), List.append_assoc]
    rfl
theorem ofV_same {s : TbV} (h : TbOk s) : ofV (s.room : Int) s.l = (0, some s.l) := by
  have hr : 1 ≤ (s.room : Int) ∧ (s.room : Int) ≤ 40 := by have := h.r1; have := h.r40; omega
  rw [ofV_l hr (fun n hn => (h.ok n hn).1), ofL_app s.l [] h.sort]
  show (if (s.room : Int) < (s.l.length : Int) then _ else _) = _
  rw [if_neg (by have := h.len; omega)]
  rfl
theorem ins_ins (l : List NtV) (x : NtV) (hs : tbR.Sort l) : tbR.ins (tbR.ins l x) x = tbR.ins l x :=
  Ord.ext_look (Ord.sort_ins _ _ (Ord.sort_ins _ _ hs)) (Ord.sort_ins _ _ hs) (fun j => by
    rw [Ord.look_ins (tbR.ins l x), Ord.look_ins l]
    by_cases e : j = tbR.key x
    · rw [if_pos e, if_pos e]
    · rw [if_neg e, if_neg e])
theorem look_as (l : List NtV) (x : NtV) (k : NmV) (h : x.nm = k) : tbR.look (tbR.ins l x) k = some x := by
  rw [Ord.look_ins l x k, if_pos (show k = tbR.key x from h.symm)]
theorem addV_ok0 {s : TbV} {x : NtV} (h : (addV s x).2 = 0) : addV s x = (⟨s.room, tbR.ins s.l x⟩, 0) := by
  unfold addV at h ⊢
  by_cases g : s.room ≤ s.l.length
  · rw [if_pos g] at h; cases h
  · rw [if_neg g]
/-- a note applied twice leaves what it leaves once -/
theorem app_twice {s : TbV} (hs : TbOk s) {n : NtV} (h : (appV s n).2 = 0) : appV (appV s n).1 n = ((appV s n).1, 0) := by
  by_cases h0 : EnOk [1, 2, 3, 4] n
  · by_cases h1 : n.k = 1
    · cases e : tbR.look s.l n.nm with
      | some i =>
        have E : appV s n = (s, 0) := by rw [app_1 h0 h1]; unfold sentV; rw [e]; rfl
        rw [E]; exact E
      | none =>
        have E0 : appV s n = addV s (n.as 1) := by rw [app_1 h0 h1]; unfold sentV; rw [e]; rfl
        have E : appV s n = (⟨s.room, tbR.ins s.l (n.as 1)⟩, 0) := by rw [E0]; exact addV_ok0 (by rw [← E0]; exact h)
        rw [E, app_1 h0 h1]
        unfold sentV
        show (tbR.look (tbR.ins s.l (n.as 1)) n.nm).elim _ _ = _
        rw [look_as s.l (n.as 1) n.nm rfl]
        rfl
    · by_cases h2 : n.k = 2
      · cases e : tbR.look s.l n.nm with
        | some i =>
          have hi := Ord.look_mem _ _ _ e
          have E : appV s n = (⟨s.room, tbR.ins s.l (i.as 2)⟩, 0) := by rw [app_2 h0 h2]; unfold recvV; rw [e]; rfl
          rw [E, app_2 h0 h2]
          unfold recvV
          show (tbR.look (tbR.ins s.l (i.as 2)) n.nm).elim _ _ = _
          rw [look_as s.l (i.as 2) n.nm hi.2]
          show ((⟨s.room, tbR.ins (tbR.ins s.l (i.as 2)) (i.as 2)⟩ : TbV), (0 : Int)) = _
          rw [ins_ins _ _ hs.sort]
        | none =>
          have E0 : appV s n = addV s (n.as 2) := by rw [app_2 h0 h2]; unfold recvV; rw [e]; rfl
          have E : appV s n = (⟨s.room, tbR.ins s.l (n.as 2)⟩, 0) := by rw [E0]; exact addV_ok0 (by rw [← E0]; exact h)
          rw [E, app_2 h0 h2]
          unfold recvV
          show (tbR.look (tbR.ins s.l (n.as 2)) n.nm).elim _ _ = _
          rw [look_as s.l (n.as 2) n.nm rfl]
          show ((⟨s.room, tbR.ins (tbR.ins s.l (n.as 2)) (n.as 2)⟩ : TbV), (0 : Int)) = _
          rw [ins_ins _ _ hs.sort]
      · have E : appV s n = (⟨s.room, tbR.del s.l n.nm⟩, 0) := by rw [app_3 h0 h1 h2]; rfl
        rw [E, app_3 h0 h1 h2]
        show ((⟨s.room, tbR.del (tbR.del s.l n.nm) n.nm⟩ : TbV), (0 : Int)) = _
        rw [Ord.del_none (tbR.del s.l n.nm) n.nm (by rw [Ord.look_del _ _ _ hs.sort, if_pos rfl])]
  · rw [app_bad h0] at h; cases h
/-- two tables of the program's -/
def TT (W : Nat → Prop) (w : World) (B1 B2 : Nat) (s1 s2 : TbV) : Prop := ∃ O1 O2, TbP w O1 B1 s1 ∧ TbP w O2 B2 s2 ∧ Two W w O1 O2
section
variable {W : Nat → Prop} {w w' : World} {B1 B2 : Nat} {s1 s2 : TbV}
theorem TT.below (h : TT W w B1 B2 s1 s2) (hb : Below w.heap.size w w') : TT W w' B1 B2 s1 s2 := by
  obtain ⟨O1, O2, h1, h2, ht⟩ := h
  exact ⟨O1, O2, h1.below hb, h2.below hb, ht.later hb.size⟩
theorem TT.one (h : TT W w B1 B2 s1 s2) : OneT W w B1 s1 := by
  obtain ⟨O1, O2, h1, h2, ht⟩ := h
  exact ⟨O1, h1, ht.a⟩
theorem TT.two (h : TT W w B1 B2 s1 s2) : OneT W w B2 s2 := by
  obtain ⟨O1, O2, h1, h2, ht⟩ := h
  exact ⟨O2, h2, ht.b⟩
theorem TT.start (h : OneT W w B1 s1) (hW : FrW W w) (h2 : TbP w' (fun k => w.heap.size ≤ k ∧ k < w'.heap.size) B2 s2) (hb : Below w.heap.size w w') : TT W w' B1 B2 s1 s2 := by
  obtain ⟨O1, h1, ha⟩ := h
  refine ⟨O1, _, h1.below hb, h2, fun k hk => ⟨(ha k hk).1, Nat.lt_of_lt_of_le (ha k hk).2 hb.size⟩, fun k hk => ⟨fun hw => (by have := hW k hw; omega), hk.2⟩, fun k hk h3 => (by have := (ha k hk).2; omega)⟩
theorem TT.wide (h : TT W w B1 B2 s1 s2) (hb : Below w.heap.size w w') : TT (Wid W w w') w' B1 B2 s1 s2 := by
  obtain ⟨O1, O2, h1, h2, ht⟩ := h
  refine ⟨O1, O2, h1.below hb, h2.below hb, fun k hk => ⟨fun h3 => ?_, Nat.lt_of_lt_of_le (ht.a k hk).2 hb.size⟩, fun k hk => ⟨fun h3 => ?_, Nat.lt_of_lt_of_le (ht.b k hk).2 hb.size⟩, ht.ne⟩
  · rcases h3 with h3 | h3
    · exact (ht.a k hk).1 h3
    · have := (ht.a k hk).2; omega
  · rcases h3 with h3 | h3
    · exact (ht.b k hk).1 h3
    · have := (ht.b k hk).2; omega
theorem tt_a (h : TT W w B1 B2 s1 s2) (hW : FrW W w) (hs : TbOk s1) (n : NtV) (hw : n.wf) : Calls Try.prog 25 #[.pointer (some ⟨B1, 0, none⟩), .agg #[.int .i64 n.k, .int .i64 n.f, .int .u64 n.q, .int .u64 n.t, .string n.d]] w fun x w' => TT W w' B1 B2 (appV s1 n).1 s2 ∧ x = .returned (.int .i64 (appV s1 n).2) ∧ Fb W w w' := by
  obtain ⟨O1, O2, h1, h2, ht⟩ := h
  exact (tb_apply w O1 B1 s1 n hw h1 hs (fun k hk => (ht.a k hk).2)).mono (fun x w' hx => ⟨⟨_, _, hx.2.1, h2.keeps hx.2.2 (fun k h2 h3 => ht.ne k h3 h2), ht.stepA hW hx.2.2.size⟩, hx.1, hx.2.2.mono (fun k _ hk => (ht.a k hk).1)⟩)
theorem tt_b (h : TT W w B1 B2 s1 s2) (hW : FrW W w) (hs : TbOk s2) (n : NtV) (hw : n.wf) : Calls Try.prog 25 #[.pointer (some ⟨B2, 0, none⟩), .agg #[.int .i64 n.k, .int .i64 n.f, .int .u64 n.q, .int .u64 n.t, .string n.d]] w fun x w' => TT W w' B1 B2 s1 (appV s2 n).1 ∧ x = .returned (.int .i64 (appV s2 n).2) ∧ Fb W w w' := by
  obtain ⟨O1, O2, h1, h2, ht⟩ := h
  exact (tb_apply w O2 B2 s2 n hw h2 hs (fun k hk => (ht.b k hk).2)).mono (fun x w' hx => ⟨⟨_, _, h1.keeps hx.2.2 (fun k h2 h3 => ht.ne k h2 h3), hx.2.1, ht.stepB hW hx.2.2.size⟩, hx.1, hx.2.2.mono (fun k _ hk => (ht.b k hk).1)⟩)
end
end Go.Proofs.Ytmckpoeolfggmaa
