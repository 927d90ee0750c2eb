/- Merged: WireText, WrNew, NtMark, NtPlace, RefNum, Betw. Contracts of wire's Writer.Text, Writer.Bytes. Condition: lengths within the reach of memory. A writer that was just declared; writers side by side; Bytes in one contract. No condition. Contracts of slices.Index and slices.Contains, of ints that stand in memory. Condition: a length is an int. Contract of note.PutPlace. No condition but that what is written is not too long. Contract of carrackref03.Bytes: a number by so many bytes. Condition: eight bytes at most. Plain mathematics: what stands between two places is read. No condition but sizes. -/
import Derived.Test.YtkbiolhcpghmkaaGreatWireNumQ
import Derived.WalkSpells
namespace Go.Proofs.YtkbiolhcpghmkaaGreat
open Go.RowKit
set_option linter.unusedVariables false
set_option maxRecDepth 100000 in
set_option maxHeartbeats 1600000 in
theorem wr_text_ok (base B : Nat) (e : Int) (v : Value) (l : List Nat) (s : ByteArray) (w : World) (h : Wr w base B e v l) (hs : s.size ≤ 65535) (hl : l.length ≤ 140737488200000) :
    Calls Tryz.prog 94 #[.pointer (some ⟨B, 0, none⟩), .string s] w (WrAny w base B v e (l ++ hi2 s.size ++ nl s)) := by
  obtain ⟨i0, hi, hz0, hz1, hz2⟩ := info_parts info8
  have c1 : w.cell? ⟨B, 1, none⟩ = some v := h.c1
  have hB := Kq.blk_lt h.blk
  have H := Lib.hid h
  clear h
  go_enter Tryz.func94, Tryz.ntmps94
  go_wp2_with (at_builtin; refine Kq.wpList_append_any _ rfl (.tmp 15) (.tmp 23) 71 71 rfl base 5 i0 (.int .u8 0) 1 1 Tryz.underlying71 hi hz0 hz1 hz2 rfl (by decide) v l.length (bcells l) rfl (H.out.own.alloc _) (.slice (some ⟨w.heap.size, 0, none⟩) 2 2) 2 (bcells (hi2 s.size)) rfl ?hs ?h1 ?h2 ?h3 ?_)
  case hs => exact src_row w Tryz.underlying71 (hi2 s.size) 2
  case h1 => unfold maxLen; omega
  case h2 => omega
  case h3 => have := H.out.base; simp; omega
  intro v' w1 hown1 hgrow hfresh
  have hm := H.out.mid (Kq.below_alloc w _) hgrow
  have c1' : w1.cell? ⟨B, 1, none⟩ = some v := Kq.blk_cell hm 1
  have f1' : w1.frozen? ⟨B, 1, none⟩ = false := Kq.blk_free hm 1
  have HP := Lib.hid (H.out.close (ns := hi2 s.size) (Kq.below_alloc w _) hown1 hgrow (by simpa using hfresh))
  obtain ⟨a', n', cap', hv⟩ := Kq.own_shape hown1
  clear hm hown1 hgrow hfresh c1 hB
  rw [hv] at HP ⊢
  clear hv
  obtain ⟨v2, HM⟩ := (WrMid.start H.out).step HP.out.any
  have HM := Lib.hid HM
  have hlen : (l ++ hi2 s.size).length + s.size ≤ 140737488350000 := by rw [List.length_append]; have : (hi2 s.size).length = 2 := rfl; omega
  have hlen := Lib.hid hlen
  go_wp2_with fail
  refine (wr_raw base B e v2 (l ++ hi2 s.size) s _ HM.out.it hlen.out).mono ?_
  rintro x w3 ⟨rfl, H3⟩
  obtain ⟨v3, HM3⟩ := HM.out.step (WrPost.any (x := .returned (.tuple #[])) ⟨rfl, H3⟩)
  have HM3 := Lib.hid HM3.post
  clear H3 c1' f1'
  go_wp2
  go_end0
  exact HM3.out
set_option maxRecDepth 100000 in
set_option maxHeartbeats 800000 in
theorem wr_text_bad (base B : Nat) (e : Int) (v : Value) (l : List Nat) (s : ByteArray) (w : World) (h : Wr w base B e v l) (hs : 65535 < s.size) :
    Calls Tryz.prog 94 #[.pointer (some ⟨B, 0, none⟩), .string s] w (WrAny w base B v (keepE e 1) l) := by
  have hd : (65535 : Int) < (s.size : Int) := by omega
  go_enter Tryz.func94, Tryz.ntmps94
  go_wp2_with fail
  refine (wr_fail base B e 1 v l _ h).mono ?_
  rintro x w2 ⟨rfl, H2⟩
  have HP : WrAny w base B v (keepE e 1) l (.returned (.tuple #[])) w2 := ⟨rfl, H2⟩
  have HP := Lib.hid HP
  clear H2
  go_wp2
  first | go_end0 | refine bodyPost_ret (results_none rfl _ _ _) rfl ?_
  exact HP.out
theorem add_flat' (b off i : Nat) : (⟨b, off, none⟩ : Addr).add i = ⟨b, off + i, none⟩ := by unfold Addr.add; split <;> simp_all
/-- what was written, as a text -/
theorem own_conv {w : World} {base : Nat} {v : Value} {l : List Nat} (h : w.ownsRow base 5 1 v l.length (bcells l)) (hl : ∀ b ∈ l, b < 256) :
    (convert 71 9 v).run Tryz.prog w = .ok (.string (txt l)) w := by
  have hc := fun g hg => h.cells (g := g) hg
  rcases h.2 with ⟨rfl, h0⟩ | ⟨g, cap, cur, rfl, _⟩
  · have : l = [] := List.eq_nil_of_length_eq_zero h0
    subst this
    exact Kq.conv_bytes_none w 0 Tryz.underlying71 Tryz.underlying5 Tryz.underlying9
  · have hc := hc g rfl
    have hcell : ∀ j (hj : j < l.length), w.cell? ⟨g, j, none⟩ = some (.int .u8 ((l[j] : Nat) : Int)) := fun j hj => by
      have := hc j (.int .u8 ((l[j] : Nat) : Int)) (by simp [bcells, hj])
      rwa [add_flat', Nat.zero_add] at this
    have := Kq.conv_bytes (P := Tryz.prog) w (src := 71) (dst := 9) (e := 5) ⟨g, 0, none⟩ (l.map UInt8.ofNat) cap Tryz.underlying71 Tryz.underlying5 Tryz.underlying9 (fun j u hj => by
      have hj' : j < l.length := by
        rcases Nat.lt_or_ge j l.length with h' | h'
        · exact h'
        · rw [List.getElem?_eq_none (by simpa using h')] at hj; cases hj
      rw [add_flat', Nat.zero_add, hcell j hj', ← hj]
      have := hl l[j] (List.getElem_mem _)
      simp [hj', Nat.mod_eq_of_lt this])
    rwa [List.length_map] at this
set_option maxRecDepth 100000 in
set_option maxHeartbeats 800000 in
theorem wr_bytes_ok (base B : Nat) (v : Value) (l : List Nat) (w : World) (h : Wr w base B 0 v l) (hl : ∀ b ∈ l, b < 256) :
    Calls Tryz.prog 22 #[.pointer (some ⟨B, 0, none⟩)] w fun x w' => x = .returned (.tuple #[.string (txt l), .int .i64 0]) ∧ w = w' := by
  have c1 : w.cell? ⟨B, 1, none⟩ = some v := h.c1
  have hcv := own_conv h.own hl
  obtain ⟨a', n', cap', hv⟩ := Kq.own_shape h.own
  subst hv
  go_enter Tryz.func22, Tryz.ntmps22
  go_wp2_with fail
  refine (mem_err B 0 _ h.c0).mono ?_
  rintro x w3 ⟨rfl, rfl⟩
  go_wp2
  go_ret2
  exact ⟨rfl, rfl⟩
set_option maxRecDepth 100000 in
set_option maxHeartbeats 800000 in
theorem wr_bytes_bad (base B : Nat) (e : Int) (v : Value) (l : List Nat) (w : World) (h : Wr w base B e v l) (he : e ≠ 0) :
    Calls Tryz.prog 22 #[.pointer (some ⟨B, 0, none⟩)] w fun x w' => x = .returned (.tuple #[.string ⟨#[]⟩, .int .i64 e]) ∧ w = w' := by
  have hne' : (e != 0) = true := by simpa using he
  clear he
  go_enter Tryz.func22, Tryz.ntmps22
  go_wp2_with fail
  refine (mem_err B e _ h.c0).mono ?_
  rintro x w3 ⟨rfl, rfl⟩
  go_wp2_with fail
  refine (mem_err B e _ h.c0).mono ?_
  rintro x w3 ⟨rfl, rfl⟩
  go_wp2
  go_ret2
  exact ⟨rfl, rfl⟩
end Go.Proofs.YtkbiolhcpghmkaaGreat
namespace Go.Proofs.YtkbiolhcpghmkaaGreat
open Go.RowKit
set_option linter.unusedVariables false
/-- a writer that was just declared -/
theorem wr_new (w : World) : Wr (w.alloc (.cells #[.int .i64 0, .slice none 0 0] 73 (0, 0))) w.heap.size w.heap.size 0 (.slice none 0 0) [] := by
  refine ⟨Kq.blk_new _ _ _ _, ?_, (fun k hk => by cases hk), ?_⟩
  · exact ⟨rfl, Or.inl ⟨rfl, rfl⟩⟩
  · exact (Kq.below_alloc w _).size
/-- what a fresh writer's calls leave below is as it was -/
theorem WrMid.below {w wr : World} {v : Value} {e : Int} {l : List Nat} {o : Obj} {base : Nat} (h : WrMid (w.alloc o) base w.heap.size (.slice none 0 0) e v l wr) : Below w.heap.size w wr :=
  (Kq.below_alloc w o).trans (h.keeps.below (Kq.below_alloc w o).size (fun k _ hk => by
    rcases hk with rfl | hk
    · exact Nat.le_refl _
    · cases hk))
theorem own_later {w w' : World} {base size : Nat} {e : TypeId} {v : Value} {n : Nat} {xs : List Value} (h : w.ownsRow base e size v n xs) (hb : ∀ k, v.ownBlock = some k → w'.heap[k]? = w.heap[k]?) : w'.ownsRow base e size v n xs := by
  refine ⟨h.1, ?_⟩
  rcases h.2 with h0 | ⟨g, cap, cur, rfl, h1, h2, h3⟩
  · exact Or.inl h0
  · exact Or.inr ⟨g, cap, cur, rfl, h1, (hb g rfl).trans h2, h3⟩
theorem Wr.later {S : Nat → Prop} {w w' : World} {base B : Nat} {e : Int} {v : Value} {l : List Nat} (h : Wr w base B e v l) (hk : Kq.Keeps S w w') (hB : ¬ S B) (ho : ∀ k, v.ownBlock = some k → ¬ S k) : Wr w' base B e v l :=
  ⟨hk.blk h.blk hB, own_later h.own (fun k hk' => hk.block k (h.own.lt k hk').2 (ho k hk')), h.ne, Nat.le_trans h.base hk.size⟩
def bytesOf (e : Int) (l : List Nat) : ByteArray := if e = 0 then txt l else ⟨#[]⟩
theorem wr_bytes (base B : Nat) (e : Int) (v : Value) (l : List Nat) (w : World) (h : Wr w base B e v l) (hl : ∀ b ∈ l, b < 256) :
    Calls Tryz.prog 22 #[.pointer (some ⟨B, 0, none⟩)] w fun x w' => x = .returned (.tuple #[.string (bytesOf e l), .int .i64 e]) ∧ w = w' := by
  unfold bytesOf
  by_cases he : e = 0
  · subst he
    exact wr_bytes_ok base B v l w h hl
  · rw [if_neg he]
    exact wr_bytes_bad base B e v l w h he
theorem Wr.belowW {w w' : World} {base B : Nat} {e : Int} {v : Value} {l : List Nat} (h : Wr w base B e v l) (hb : Below w.heap.size w w') : Wr w' base B e v l :=
  h.later (Kq.Keeps.of_below (S := fun _ => False) hb (fun k h1 h2 => absurd h1 (Nat.not_le.2 h2))) id (fun k _ => id)
theorem WrAny.from {w w0 w' : World} {base B : Nat} {v : Value} {e : Int} {l : List Nat} {x : Ending} (hb : Below w.heap.size w w0) (h : WrAny w0 base B v e l x w') : WrAny w base B v e l x w' := by
  obtain ⟨hx, v', h1, h2, h3⟩ := h
  exact ⟨hx, v', h1, (Kq.Keeps.of_below hb (fun k h1 h2 => absurd h1 (Nat.not_le.2 h2))).trans h2, fun k hk => (h3 k hk).imp id (Nat.le_trans hb.size)⟩
end Go.Proofs.YtkbiolhcpghmkaaGreat
namespace Go.Proofs.YtkbiolhcpghmkaaGreat
open Go.RowKit
set_option linter.unusedVariables false
set_option maxRecDepth 100000 in
set_option maxHeartbeats 800000 in
theorem nt_index (b c : Nat) (zs : List Int) (x : Int) (w : World) (hb : b < w.heap.size) (hl : zs.length ≤ maxLen)
    (hc : ∀ j (h : j < zs.length), w.cell? ⟨b, j, none⟩ = some (.int .i64 zs[j])) :
    Calls Tryz.prog 93 #[.slice (some ⟨b, 0, none⟩) zs.length c, .int .i64 x] w fun e w' => (∃ i : Int, e = .returned (.int .i64 i) ∧ decide (0 ≤ i) = decide (x ∈ zs)) ∧ Below w.heap.size w w' := by
  unfold maxLen at hl
  have HC := Lib.hid hc
  clear hc
  go_enter Tryz.func93, Tryz.ntmps93
  go_wp2
  go_loopw [8] (fun j wr => ∃ k : Nat, k ≤ zs.length ∧ j = .int .i64 k ∧ x ∉ zs.take k ∧ Below w.heap.size w wr) (fun j _ => zs.length - (intOf j).toNat)
  case atStart => exact ⟨0, by omega, rfl, by simp, Below.refl _ _⟩
  case round =>
    obtain ⟨k, hk, rfl, hno, hbl⟩ := hrel
    have HN := Lib.hid hno
    clear hno
    by_cases hlt : k < zs.length
    · have hcell := (hbl.cell (p := ⟨b, k, none⟩) hb).trans (HC.out k hlt)
      generalize hy : zs[k] = y at hcell
      have HY := Lib.hid hy
      clear hy
      by_cases hxy : x = y
      · go_wp2
        go_ret
        exact ⟨⟨k, rfl, by rw [decide_eq_true (show (0 : Int) ≤ k by omega), decide_eq_true]; rw [hxy, ← HY.out]; exact List.getElem_mem _⟩, hbl⟩
      · go_wp2
        go_roundw
        case rel =>
          refine ⟨k + 1, by omega, by go_num, ?_, hbl⟩
          rw [List.take_succ_eq_append_getElem hlt, HY.out]
          simp only [List.mem_append, List.mem_singleton, not_or]
          exact ⟨HN.out, hxy⟩
        case measure => simp [intOf]; omega
    · obtain rfl : k = zs.length := by omega
      have hno := HN.out
      rw [List.take_length] at hno
      go_wp2
      go_ret
      exact ⟨⟨-1, rfl, by rw [decide_eq_false hno]; rfl⟩, hbl⟩
set_option maxRecDepth 100000 in
theorem nt_contains (b c : Nat) (zs : List Int) (x : Int) (w : World) (hb : b < w.heap.size) (hl : zs.length ≤ maxLen)
    (hc : ∀ j (h : j < zs.length), w.cell? ⟨b, j, none⟩ = some (.int .i64 zs[j])) :
    Calls Tryz.prog 72 #[.slice (some ⟨b, 0, none⟩) zs.length c, .int .i64 x] w fun e w' => e = .returned (.bool (decide (x ∈ zs))) ∧ Below w.heap.size w w' := by
  have HC := Lib.hid hc
  clear hc
  go_enter Tryz.func72, Tryz.ntmps72
  go_wp2_with fail
  refine (nt_index b c zs x w hb hl HC.out).mono ?_
  rintro e w' ⟨⟨i, rfl, hi⟩, hbl⟩
  have HI := Lib.hid hi
  clear hi
  go_wp2
  go_ret
  rw [HI.out]
  exact ⟨rfl, hbl⟩
/-- a mark that may not be: the writer remembers ErrRange -/
theorem nt_refuse (base B : Nat) (e : Int) (v : Value) (l : List Nat) (w : World) (h : Wr w base B e v l) :
    Calls Tryz.prog 50 #[.pointer (some ⟨B, 0, none⟩)] w (WrAny w base B v (keepE e 1) l) := by
  have H := Lib.hid h
  clear h
  go_enter Tryz.func50, Tryz.ntmps50
  go_wp2_with fail
  refine (wr_byte_bad base B e v l (-1) w H.out (Or.inl (by omega))).mono ?_
  rintro x w2 ⟨rfl, H2⟩
  have HP : WrAny w base B v (keepE e 1) l (.returned (.tuple #[])) w2 := ⟨rfl, H2⟩
  have HP := Lib.hid HP
  clear H2
  go_wp2
  first | go_end0 | refine bodyPost_ret (results_none rfl _ _ _) rfl ?_
  exact HP.out
end Go.Proofs.YtkbiolhcpghmkaaGreat
namespace Go.Proofs.YtkbiolhcpghmkaaGreat
open Go.RowKit
set_option linter.unusedVariables false
/-- a place in memory -/
structure QB (w : World) (H : Nat) (h i : Int) : Prop where
  blk : w.heap[H]? = some (.cells #[.int .u64 h, .int .i64 i] 24 (0, 0))
theorem QB.c0 {w : World} {H : Nat} {h i : Int} (q : QB w H h i) : w.cell? ⟨H, 0, none⟩ = some (.int .u64 h) := Kq.blk_cell q.blk 0
theorem QB.c1 {w : World} {H : Nat} {h i : Int} (q : QB w H h i) : w.cell? ⟨H, 1, none⟩ = some (.int .i64 i) := Kq.blk_cell q.blk 1
theorem QB.later {S : Nat → Prop} {w w' : World} {H : Nat} {h i : Int} (q : QB w H h i) (hk : Kq.Keeps S w w') (hS : ¬ S H) : QB w' H h i := ⟨hk.blk q.blk hS⟩
theorem WrMid.qb {w0 wr : World} {base B H : Nat} {v0 v : Value} {e : Int} {l : List Nat} {a i : Int} (h : WrMid w0 base B v0 e v l wr) (hp : QB w0 H a i) (h1 : H ≠ B) (h2 : ∀ k, v0.ownBlock = some k → k ≠ H) : QB wr H a i :=
  hp.later h.keeps (fun hh => by
    rcases hh with hh | hh
    · exact h1 hh
    · exact h2 H hh.symm rfl)
set_option maxRecDepth 100000 in
set_option maxHeartbeats 2000000 in
theorem nt_place_bad (base B : Nat) (e : Int) (v : Value) (l : List Nat) (a i : Int) (w : World) (h : Wr w base B e v l) (hi : i < 0 ∨ 65535 < i) :
    Calls Tryz.prog 21 #[.pointer (some ⟨B, 0, none⟩), .agg #[.int .u64 a, .int .i64 i]] w (WrAny w base B v (keepE e 1) l) := by
  have H1 := Lib.hid (h.belowW (Kq.below_alloc w (Obj.cells #[Value.int IntKind.u64 a, Value.int IntKind.i64 i] 24)))
  have HB := Lib.hid (Kq.below_alloc w (Obj.cells #[Value.int IntKind.u64 a, Value.int IntKind.i64 i] 24))
  clear h
  by_cases h0 : i < 0
  · go_enter Tryz.func21, Tryz.ntmps21
    go_wp2_with fail
    refine (nt_refuse base B e v l _ H1.out).mono ?_
    intro x w3 hp
    have HP := Lib.hid (hp.from HB.out)
    obtain ⟨rfl, -⟩ := hp
    clear H1 HB
    go_wp2
    first | go_end0 | refine bodyPost_ret (results_none rfl _ _ _) rfl ?_
    exact HP.out
  · have h1 : 65535 < i := hi.resolve_left h0
    go_enter Tryz.func21, Tryz.ntmps21
    go_wp2_with fail
    refine (nt_refuse base B e v l _ H1.out).mono ?_
    intro x w3 hp
    have HP := Lib.hid (hp.from HB.out)
    obtain ⟨rfl, -⟩ := hp
    clear H1 HB
    go_wp2
    first | go_end0 | refine bodyPost_ret (results_none rfl _ _ _) rfl ?_
    exact HP.out
set_option maxRecDepth 100000 in
set_option maxHeartbeats 2000000 in
theorem nt_place_ok (base B : Nat) (e : Int) (v : Value) (l : List Nat) (an i : Nat) (w : World) (h : Wr w base B e v l) (hi : i ≤ 65535) (ha : an < 18446744073709551616) (hl : l.length ≤ 1000000) :
    Calls Tryz.prog 21 #[.pointer (some ⟨B, 0, none⟩), .agg #[.int .u64 (an : Int), .int .i64 (i : Int)]] w (WrAny w base B v e (l ++ (num8 an ++ num8 i))) := by
  have hB : w.heap.size ≠ B := Ne.symm (Nat.ne_of_lt (Kq.blk_lt h.blk))
  have hown : ∀ k, v.ownBlock = some k → k ≠ w.heap.size := fun k hk => Nat.ne_of_lt (h.own.lt k hk).2
  have H1 := Lib.hid (h.belowW (Kq.below_alloc w (Obj.cells #[Value.int IntKind.u64 (an : Int), Value.int IntKind.i64 (i : Int)] 24)))
  have HB := Lib.hid (Kq.below_alloc w (Obj.cells #[Value.int IntKind.u64 (an : Int), Value.int IntKind.i64 (i : Int)] 24))
  have P1 : Hid (QB (w.alloc (Obj.cells #[Value.int IntKind.u64 (an : Int), Value.int IntKind.i64 (i : Int)] 24)) w.heap.size an i) := Lib.hid ⟨Kq.blk_new _ _ _ _⟩
  have HN := Lib.hid (And.intro hB hown)
  have HR := Lib.hid (And.intro ha hl)
  clear h hB hown ha hl
  have h0 : ¬ ((i : Int) < 0) := by omega
  have h1 : ¬ ((65535 : Int) < (i : Int)) := by omega
  have c0 := P1.out.c0
  go_enter Tryz.func21, Tryz.ntmps21
  go_wp2_with fail
  refine (wr_number base B e v _ an _ H1.out (by have := HR.out.1; unfold M64; omega) (by have := HR.out.2; omega)).mono ?_
  rintro x w4 hp
  obtain ⟨v4, M4⟩ := (WrMid.start H1.out).step hp
  obtain ⟨rfl, -⟩ := hp
  have H4 := Lib.hid M4
  have P4 := Lib.hid (M4.qb P1.out HN.out.1 HN.out.2)
  clear M4 c0
  have c1 := P4.out.c1
  go_wp2_with fail
  refine (wr_number base B e v4 _ i _ H4.out.it (by unfold M64; omega) (by have := HR.out.2; simp [num8]; omega)).mono ?_
  rintro x w5 hp
  obtain ⟨v5, M5⟩ := H4.out.step hp
  obtain ⟨rfl, -⟩ := hp
  have H6 := Lib.hid (M5.post.from HB.out)
  clear M5 c1 H4 P4 H1 P1
  go_wp2
  first | go_end0 | refine bodyPost_ret (results_none rfl _ _ _) rfl ?_
  have := H6.out
  simp only [List.append_assoc] at this
  exact this
end Go.Proofs.YtkbiolhcpghmkaaGreat
namespace Go.Proofs.YtkbiolhcpghmkaaGreat
open Go.RowKit
set_option linter.unusedVariables false
theorem val_num8 (n : Nat) (h : n < M64) : WireM.val (num8 n) = n := by
  unfold M64 at h
  simp only [WireM.val, num8, List.foldl_cons, List.foldl_nil]
  omega
theorem val_hi2 (n : Nat) : WireM.val (hi2 n) = n := by
  simp only [WireM.val, hi2, List.foldl_cons, List.foldl_nil]
  omega
theorem val_one (n : Nat) : WireM.val [n] = n := by simp [WireM.val]
end Go.Proofs.YtkbiolhcpghmkaaGreat
namespace Go.Proofs.YtkbiolhcpghmkaaGreat
open Go.RowKit
set_option linter.unusedVariables false
/-- r is what stands between p and cut of L -/
def Between (L : List Nat) (cut p : Nat) (r : ByteArray) : Prop := nl r = (L.take cut).drop p
theorem between_size {L : List Nat} {cut p : Nat} {r : ByteArray} (h : Between L cut p r) (hc : cut ≤ L.length) : r.size = cut - p := by
  rw [← nl_length, h, List.length_drop, List.length_take, Nat.min_eq_left hc]
/-- what is read of what was written there -/
theorem read_ok {L : List Nat} {cut p : Nat} {r : ByteArray} (h : Between L cut p r) (hc : cut ≤ L.length) (bs : List Nat) (hb : bs <+: L.drop p) (hle : p + bs.length ≤ cut) :
    nl (WireM.raw 0 r (bs.length : Nat)).1 = bs ∧ (WireM.raw 0 r (bs.length : Nat)).2.1 = 0 ∧ Between L cut (p + bs.length) (WireM.raw 0 r (bs.length : Nat)).2.2 := by
  have hs := between_size h hc
  rw [WireM.raw_ok r bs.length (by omega)]
  refine ⟨?_, rfl, ?_⟩
  · show nl (r.extract 0 bs.length) = bs
    rw [nl_extract, h, List.drop_zero, Nat.sub_zero]
    obtain ⟨t, ht⟩ := hb
    rw [List.drop_take, ← ht, List.take_take, Nat.min_eq_left (by omega), List.take_left]
  · show nl (r.extract bs.length r.size) = (L.take cut).drop (p + bs.length)
    rw [nl_extract, h, List.drop_drop, hs]
    refine List.take_of_length_le ?_
    rw [List.length_drop, List.length_take]; omega
theorem read_no {L : List Nat} {cut p : Nat} {r : ByteArray} (h : Between L cut p r) (hc : cut ≤ L.length) (n : Nat) (hle : cut < p + n) (hn : p ≤ cut) :
    WireM.raw 0 r (n : Nat) = (⟨#[]⟩, 6, r) := by
  have hs := between_size h hc
  rw [WireM.raw_bad 0 r n (Or.inr (by omega))]
  rfl
/-- how a reader stands ahead of the call number k: all is there, or something wasn't -/
def Mid (L : List Nat) (cut p : Nat) (e : Int) (r : ByteArray) : Prop := (e = 0 ∧ p ≤ cut ∧ Between L cut p r) ∨ (e = 6 ∧ cut < L.length)
theorem Mid.err {L : List Nat} {cut p : Nat} {e : Int} {r : ByteArray} (h : Mid L cut p e r) : e = 0 ∨ e = 6 := h.imp And.left And.left
/-- one read of so many bytes that were written -/
theorem Mid.read {L : List Nat} {cut p : Nat} {e : Int} {r : ByteArray} (h : Mid L cut p e r) (hc : cut ≤ L.length) (bs : List Nat) (hb : bs <+: L.drop p) :
    Mid L cut (p + bs.length) (WireM.raw e r (bs.length : Nat)).2.1 (WireM.raw e r (bs.length : Nat)).2.2 ∧ ((WireM.raw e r (bs.length : Nat)).2.1 = 0 → nl (WireM.raw e r (bs.length : Nat)).1 = bs) := by
  rcases h with ⟨rfl, hp, hB⟩ | ⟨rfl, hl⟩
  · by_cases hle : p + bs.length ≤ cut
    · obtain ⟨h1, h2, h3⟩ := read_ok hB hc bs hb hle
      exact ⟨Or.inl ⟨h2, hle, h3⟩, fun _ => h1⟩
    · rw [read_no hB hc bs.length (by omega) hp]
      refine ⟨Or.inr ⟨rfl, ?_⟩, fun h => by revert h; simp⟩
      have := hb.length_le
      rw [List.length_drop] at this
      omega
  · rw [WireM.raw_stuck 6 r _ (by decide)]
    exact ⟨Or.inr ⟨rfl, hl⟩, fun h => by revert h; simp⟩
theorem Mid.stuck {L : List Nat} {cut p q : Nat} {e : Int} {r : ByteArray} (h : Mid L cut p e r) (he : e ≠ 0) (n : Int) : WireM.raw e r n = (⟨#[]⟩, e, r) ∧ Mid L cut q e r :=
  ⟨WireM.raw_stuck e r n he, by
    rcases h with ⟨rfl, _⟩ | h
    · exact absurd rfl he
    · exact Or.inr h⟩
end Go.Proofs.YtkbiolhcpghmkaaGreat
