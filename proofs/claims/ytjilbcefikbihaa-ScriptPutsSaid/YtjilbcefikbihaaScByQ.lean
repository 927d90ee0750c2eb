/- Package script's Bytes of replies. Condition: at most 40 replies, of at most 600 codes each. -/
import Derived.WalkSpells
import Derived.Outline
import Derived.Test.YtjilbcefikbihaaScCfgQ
import Derived.Test.YtjilbcefikbihaaScWwQ
namespace Go.Proofs.Ytjilbcefikbihaa
open Go.RowKit
set_option linter.unusedVariables false
set_option linter.unusedSimpArgs false
/-- a reply as a value -/
structure RpV where
  e : Int
  q : Int
  n : Int
  cs : List Int
def RpV.enc (r : RpV) : List Nat := [(r.e % 256).toNat] ++ num8 r.q.toNat ++ [(r.n / 256 % 256).toNat] ++ [(r.n % 256).toNat] ++ [min r.cs.length 255] ++ (r.cs.take 255).map (fun x => (x % 256).toNat)
def encRp (l : List RpV) : List Nat := l.flatMap RpV.enc
theorem encRp_snoc (l : List RpV) (r : RpV) : encRp (l ++ [r]) = encRp l ++ r.enc := by simp [encRp]
def CodAt (w : World) (A : Option Addr) (cs : List Int) : Prop := ∀ i (h : i < cs.length), ∃ g u, A = some ⟨g, u, none⟩ ∧ g < w.heap.size ∧ w.cell? ⟨g, u + i, none⟩ = some (.int .i64 cs[i])
def RpsAt (w : World) (A : Option Addr) (rs : List RpV) : Prop := ∀ j (h : j < rs.length), ∃ b o CA cap, A = some ⟨b, o, none⟩ ∧ b < w.heap.size ∧ w.cell? ⟨b, o + j * 4, none⟩ = some (.int .i64 rs[j].e) ∧ w.cell? ⟨b, o + j * 4 + 1, none⟩ = some (.int .u64 rs[j].q) ∧ w.cell? ⟨b, o + j * 4 + 2, none⟩ = some (.int .i64 rs[j].n) ∧ w.cell? ⟨b, o + j * 4 + 3, none⟩ = some (.slice CA rs[j].cs.length cap) ∧ rs[j].cs.length ≤ cap ∧ CodAt w CA rs[j].cs
theorem CodAt.below {w w' : World} {A : Option Addr} {cs : List Int} (h : CodAt w A cs) (hb : Below w.heap.size w w') : CodAt w' A cs := fun i hi => by
  obtain ⟨g, u, e, h1, h2⟩ := h i hi
  exact ⟨g, u, e, Nat.lt_of_lt_of_le h1 hb.size, (hb.cell (p := ⟨g, u + i, none⟩) h1).trans h2⟩
theorem RpsAt.below {w w' : World} {A : Option Addr} {rs : List RpV} (h : RpsAt w A rs) (hb : Below w.heap.size w w') : RpsAt w' A rs := fun j hj => by
  obtain ⟨b, o, CA, cap, e, h1, c0, c1, c2, c3, hc, hk⟩ := h j hj
  exact ⟨b, o, CA, cap, e, Nat.lt_of_lt_of_le h1 hb.size, (hb.cell (p := ⟨b, _, none⟩) h1).trans c0, (hb.cell (p := ⟨b, _, none⟩) h1).trans c1, (hb.cell (p := ⟨b, _, none⟩) h1).trans c2, (hb.cell (p := ⟨b, _, none⟩) h1).trans c3, hc, hk.below hb⟩
def RpOk (r : RpV) : Prop := (0 ≤ r.q ∧ r.q < 18446744073709551616) ∧ r.cs.length ≤ 600
theorem mid_step {wX wr w' : World} {B : Nat} {v0 v' : Value} {add add2 : List Nat} {ok2 : Prop} {n2 : Nat} {x : Ending} (hM : WrMid wX B B v0 0 v' add wr) (hp : WrStep wr B B v' 0 add ok2 add2 n2 x w') (hok : ok2) :
    x = .returned (.tuple #[]) ∧ ∃ v2, WrMid wX B B v0 0 v2 (add ++ add2) w' := by
  obtain ⟨e2, l2, k1, _, k3, _⟩ := hp
  obtain ⟨rfl, rfl⟩ := k3 hok
  exact ⟨k1.1, hM.step k1⟩
theorem RpV.enc_len (r : RpV) : r.enc.length ≤ 267 := by
  simp only [RpV.enc, List.length_append, List.length_map, List.length_take, num8, List.length_cons, List.length_nil]
  omega
theorem encRp_len : ∀ (l : List RpV), (encRp l).length ≤ l.length * 267
  | [] => Nat.zero_le _
  | r :: l => by
    have h1 := r.enc_len
    have h2 := encRp_len l
    show (r.enc ++ encRp l).length ≤ (l.length + 1) * 267
    rw [List.length_append]; omega
theorem RpV.enc_lt (r : RpV) : ∀ b ∈ r.enc, b < 256 := by
  intro b hb
  unfold RpV.enc at hb
  simp only [List.mem_append, List.mem_singleton, List.mem_map] at hb
  rcases hb with ((((h | h) | h) | h) | h) | ⟨x, _, h⟩
  · omega
  · exact num8_lt _ b h
  · omega
  · omega
  · omega
  · omega
theorem encRp_lt (l : List RpV) : ∀ b ∈ encRp l, b < 256 := fun b hb => by
  obtain ⟨r, _, h⟩ := List.mem_flatMap.1 hb
  exact r.enc_lt b h
set_option maxRecDepth 100000 in
set_option maxHeartbeats 4000000 in
theorem sc_bytes (A : Option Addr) (cap0 : Nat) (rs : List RpV) (w : World) (hA : RpsAt w A rs) (hok : ∀ r ∈ rs, RpOk r) (hl : rs.length ≤ 40) :
    Calls Try.prog 12 #[.slice A rs.length cap0] w fun x w' => x = .returned (.string (txt (encRp rs))) ∧ Below w.heap.size w w' := by
  obtain ⟨B, hB⟩ : ∃ z, z = w.heap.size := ⟨_, rfl⟩
  obtain ⟨w1, hw1⟩ : ∃ z, z = w.alloc (.cells #[.int .i64 0, .slice none 0 0] 78) := ⟨_, rfl⟩
  have H1 : Hid (Wr w1 B B 0 (.slice none 0 0) [] ∧ Below w.heap.size w w1) := Lib.hid ⟨by rw [hw1, hB]; exact wr_new w, by rw [hw1]; exact Kq.below_alloc _ _⟩
  have HB : Hid (B = w.heap.size) := Lib.hid hB
  have HA := Lib.hid (And.intro hA hok)
  have HL := Lib.hid hl
  clear hA hok
  go_enter Try.func12, Try.ntmps12
  go_wp2
  rw [← hw1, ← hB]
  clear hw1 hB
  go_loopw [13] (fun u wr => ∃ j : Nat, j ≤ rs.length ∧ u = .int .i64 (j : Int) ∧ Below w.heap.size w wr ∧ ∃ v, Wr wr B B 0 v (encRp (rs.take j))) (fun u _ => rs.length - (intOf u).toNat)
  case atStart => exact ⟨0, Nat.zero_le _, rfl, H1.out.2, _, H1.out.1⟩
  case round =>
    obtain ⟨j, hj, rfl, hbel, v, hW⟩ := hrel
    by_cases hlt : j < rs.length
    · obtain ⟨r, hr⟩ : ∃ r, r = rs[j]'hlt := ⟨_, rfl⟩
      have HTK : Hid (encRp (rs.take (j + 1)) = encRp (rs.take j) ++ r.enc ∧ RpOk r ∧ (encRp (rs.take j)).length ≤ 10680) := Lib.hid (by
        refine ⟨by rw [List.take_succ_eq_append_getElem hlt, encRp_snoc, ← hr], HA.out.2 r (by rw [hr]; exact List.getElem_mem _), ?_⟩
        have h1 := encRp_len (rs.take j)
        have h2 : (rs.take j).length ≤ 40 := by rw [List.length_take]; have := HL.out; omega
        omega)
      obtain ⟨b, o, CA, cap, rfl, hb, c0, c1, c2, c3, hcap, hcw⟩ := HA.out.1 j hlt
      replace c0 := (hbel.cell (p := ⟨b, _, none⟩) hb).trans c0
      replace c1 := (hbel.cell (p := ⟨b, _, none⟩) hb).trans c1
      replace c2 := (hbel.cell (p := ⟨b, _, none⟩) hb).trans c2
      replace c3 := (hbel.cell (p := ⟨b, _, none⟩) hb).trans c3
      have hcod := hcw.below hbel
      have hj6 : j ≤ 40 := by omega
      rw [← hr] at c0 c1 c2 c3 hcap hcod hcw
      obtain ⟨acc, hacc⟩ : ∃ z, z = encRp (rs.take j) := ⟨_, rfl⟩
      rw [← hacc] at hW HTK
      obtain ⟨re, rq, rn, cs⟩ := r
      simp only at c0 c1 c2 c3 hcap hcod hcw
      have HCW := Lib.hid hcw
      have HVB : Hid (∀ k, v.ownBlock = some k → B ≤ k) := Lib.hid (fun k hk => own_ge hW.own hk)
      obtain ⟨X, hX⟩ : ∃ z, z = wr.heap.size := ⟨_, rfl⟩
      obtain ⟨wX, hwX⟩ : ∃ z, z = wr.alloc (.cells #[.int .i64 re, .int .u64 rq, .int .i64 rn, .slice CA cs.length cap] 39) := ⟨_, rfl⟩
      have HX : Hid (wX.heap[X]? = some (.cells #[.int .i64 re, .int .u64 rq, .int .i64 rn, .slice CA cs.length cap] 39 (0, 0)) ∧ WrMid wX B B v 0 v acc wX ∧ CodAt wX CA cs ∧ Below w.heap.size w wX ∧ ¬ (X = B ∨ some X = v.ownBlock) ∧ w.heap.size ≤ X) := Lib.hid (by
        have ba : Below wr.heap.size wr wX := by rw [hwX]; exact Kq.below_alloc _ _
        refine ⟨by rw [hwX, hX]; exact Kq.blk_new _ _ _ _, ⟨hW.belowW ba, Kq.Keeps.refl _ _, fun k hk => Or.inl hk.symm⟩, hcod.below ba, hbel.trans (ba.mono hbel.size), ?_, by rw [hX]; exact hbel.size⟩
        · rintro (h | h)
          · have := Kq.blk_lt hW.blk; omega
          · have := (hW.own.lt X h.symm).2; omega)
      have HLT := Lib.hid (And.intro hlt hacc)
      have t1 : decide ((j : Int) < (rs.length : Int)) = true := decide_eq_true (by omega)
      have t2 : decide (j < rs.length) = true := decide_eq_true hlt
      have hi0 : (j : Int) < (rs.length : Int) := by omega
      have HCA := Lib.hid hcap
      have hsh : rn / 2 ^ (8 : Int).toNat = rn / 256 := rfl
      have k0 : (wr.alloc (.cells #[.int .i64 re, .int .u64 rq, .int .i64 rn, .slice CA cs.length cap] 39)).cell? ⟨X, 3, none⟩ = some (.slice CA cs.length cap) := by rw [← hwX]; exact Kq.blk_cell HX.out.1 3
      rw [hX] at k0
      rcases Nat.lt_or_ge 255 cs.length with hm | hm
      case' inl =>
        have m1 : ¬ (cs.length : Int) ≤ 255 := by omega
        have m2 : (255 : Int) ≤ (cap : Int) := by omega
        have m3 : (255 : Int) < (cs.length : Int) := by omega
        have m4 : 255 ≤ cap := by omega
        have HMM : Hid (255 = min cs.length 255) := Lib.hid (by omega)
        clear hr hlt hj hbel hW hcod hcap hm hacc hb hcw
        go_wp2_with fail
        obtain ⟨m, hm⟩ : ∃ z : Nat, z = 255 := ⟨_, rfl⟩
        rw [show (Value.int IntKind.i64 255) = Value.int .i64 ((m : Nat) : Int) by rw [hm]; rfl, show Value.slice CA 255 cap = Value.slice CA m cap by rw [hm]]
        have HM : Hid (m = min cs.length 255 ∧ m ≤ cap) := Lib.hid ⟨by rw [hm]; exact HMM.out, by omega⟩
        clear hm m1 m2 m3 m4 HMM
      case' inr =>
        have m1 : (cs.length : Int) ≤ 255 := by omega
        have m2 : (cs.length : Int) ≤ (cap : Int) := by omega
        have m4 : cs.length ≤ cap := by omega
        have HMM : Hid (cs.length = min cs.length 255) := Lib.hid (by omega)
        clear hr hlt hj hbel hW hcod hcap hm hacc hb hcw
        go_wp2_with fail
        obtain ⟨m, hm⟩ : ∃ z : Nat, z = cs.length := ⟨_, rfl⟩
        rw [← hwX]
        rw [← hm]
        have HM : Hid (m = min cs.length 255 ∧ m ≤ cap) := Lib.hid ⟨by rw [hm]; exact HMM.out, by omega⟩
        clear hm m1 m2 m4 HMM
      all_goals
        try rw [← hwX]
        try rw [← hX]
        clear k0 hwX hX c0 c1 c2 c3 t1 t2 hi0
        refine (sc_lowest re wX).mono ?_
        rintro x wq ⟨rfl, rfl⟩
        go_wp2_with fail
        obtain ⟨v1, hM⟩ : ∃ v1, WrMid wX B B v 0 v1 (acc) wX := ⟨_, HX.out.2.1⟩
        have HC := Lib.hid (wr_byte_step B B 0 v1 (acc) (re % 256) wX hM.it (by have := HTK.out.2.2; (try simp only [List.length_append, List.length_singleton, num8, List.length_cons, List.length_nil]); omega))
        have HM0 := Lib.hid hM
        clear hM
        refine HC.out.mono ?_
        intro x y0 hp
        obtain ⟨rfl, hnx⟩ := mid_step HM0.out hp (by omega)
        have N0 := Lib.hid hnx
        have kc : y0.cell? ⟨X, 1, none⟩ = some (.int .u64 rq) := by
          obtain ⟨_, h⟩ := hnx
          exact Kq.blk_cell (h.keeps.blk HX.out.1 HX.out.2.2.2.2.1) 1
        clear hp hnx HC HM0 v1
        go_wp2_with fail
        clear kc
        obtain ⟨v1, hM⟩ : ∃ v1, WrMid wX B B v 0 v1 (acc ++ [(re % 256).toNat]) y0 := N0.out
        have HC := Lib.hid ((fun h h2 => wr_num_step B B 0 v1 (acc ++ [(re % 256).toNat]) rq y0 h HTK.out.2.1.1 h2) hM.it (by have := HTK.out.2.2; (try simp only [List.length_append, List.length_singleton, num8, List.length_cons, List.length_nil]); omega))
        have HM0 := Lib.hid hM
        clear hM
        refine HC.out.mono ?_
        intro x y1 hp
        obtain ⟨rfl, hnx⟩ := mid_step HM0.out hp trivial
        have N1 := Lib.hid hnx
        have kc : y1.cell? ⟨X, 2, none⟩ = some (.int .i64 rn) := by
          obtain ⟨_, h⟩ := hnx
          exact Kq.blk_cell (h.keeps.blk HX.out.1 HX.out.2.2.2.2.1) 2
        clear hp hnx HC HM0 v1
        go_wp2_with fail
        clear kc
        refine (sc_lowest (rn / 256) y1).mono ?_
        rintro x wq ⟨rfl, rfl⟩
        go_wp2_with fail
        obtain ⟨v1, hM⟩ : ∃ v1, WrMid wX B B v 0 v1 (acc ++ [(re % 256).toNat] ++ num8 rq.toNat) y1 := N1.out
        have HC := Lib.hid (wr_byte_step B B 0 v1 (acc ++ [(re % 256).toNat] ++ num8 rq.toNat) (rn / 256 % 256) y1 hM.it (by have := HTK.out.2.2; (try simp only [List.length_append, List.length_singleton, num8, List.length_cons, List.length_nil]); omega))
        have HM0 := Lib.hid hM
        clear hM
        refine HC.out.mono ?_
        intro x y2 hp
        obtain ⟨rfl, hnx⟩ := mid_step HM0.out hp (by omega)
        have N2 := Lib.hid hnx
        have kc : y2.cell? ⟨X, 2, none⟩ = some (.int .i64 rn) := by
          obtain ⟨_, h⟩ := hnx
          exact Kq.blk_cell (h.keeps.blk HX.out.1 HX.out.2.2.2.2.1) 2
        clear hp hnx HC HM0 v1
        go_wp2_with fail
        clear kc
        refine (sc_lowest rn y2).mono ?_
        rintro x wq ⟨rfl, rfl⟩
        go_wp2_with fail
        obtain ⟨v1, hM⟩ : ∃ v1, WrMid wX B B v 0 v1 (acc ++ [(re % 256).toNat] ++ num8 rq.toNat ++ [(rn / 256 % 256).toNat]) y2 := N2.out
        have HC := Lib.hid (wr_byte_step B B 0 v1 (acc ++ [(re % 256).toNat] ++ num8 rq.toNat ++ [(rn / 256 % 256).toNat]) (rn % 256) y2 hM.it (by have := HTK.out.2.2; (try simp only [List.length_append, List.length_singleton, num8, List.length_cons, List.length_nil]); omega))
        have HM0 := Lib.hid hM
        clear hM
        refine HC.out.mono ?_
        intro x y3 hp
        obtain ⟨rfl, hnx⟩ := mid_step HM0.out hp (by omega)
        have N3 := Lib.hid hnx
        clear hp hnx HC HM0 v1
        go_wp2_with fail
        obtain ⟨v1, hM⟩ : ∃ v1, WrMid wX B B v 0 v1 (acc ++ [(re % 256).toNat] ++ num8 rq.toNat ++ [(rn / 256 % 256).toNat] ++ [(rn % 256).toNat]) y3 := N3.out
        have HC := Lib.hid (wr_byte_step B B 0 v1 (acc ++ [(re % 256).toNat] ++ num8 rq.toNat ++ [(rn / 256 % 256).toNat] ++ [(rn % 256).toNat]) (m : Int) y3 hM.it (by have := HTK.out.2.2; (try simp only [List.length_append, List.length_singleton, num8, List.length_cons, List.length_nil]); omega))
        have HM0 := Lib.hid hM
        clear hM
        refine HC.out.mono ?_
        intro x y4 hp
        obtain ⟨rfl, hnx⟩ := mid_step HM0.out hp (by have := HM.out.1; omega)
        have N4 := Lib.hid hnx
        clear hp hnx HC HM0 v1
        obtain ⟨a5, ha5⟩ : ∃ z, z = acc ++ [(re % 256).toNat] ++ num8 rq.toNat ++ [(rn / 256 % 256).toNat] ++ [(rn % 256).toNat] ++ [((m : Nat) : Int).toNat] := ⟨_, rfl⟩
        rw [← ha5] at N4
        have HA5 := Lib.hid ha5
        have HN4 : Hid (a5.length ≤ 11000 ∧ (∀ k, k ≤ m → (cs.take 255).take k = cs.take k)) := Lib.hid ⟨by rw [ha5]; have := HTK.out.2.2; simp only [List.length_append, List.length_singleton, num8, List.length_cons, List.length_nil]; omega, fun k hk => by rw [List.take_take, Nat.min_eq_left (by have := HM.out.1; omega)]⟩
        clear ha5 N0 N1 N2 N3
        go_wp2
        go_loopw [45] (fun u wr => ∃ k : Nat, k ≤ m ∧ u = .int .i64 (k : Int) ∧ ∃ v2, WrMid wX B B v 0 v2 (a5 ++ (cs.take k).map (fun x => (x % 256).toNat)) wr) (fun u _ => m - (intOf u).toNat)
        case atStart =>
          obtain ⟨v2, h2⟩ := N4.out
          exact ⟨0, Nat.zero_le _, rfl, v2, by rw [List.take_zero, List.map_nil, List.append_nil]; exact h2⟩
        case round =>
          obtain ⟨k, hk, rfl, v2, hM⟩ := hrel
          have HM2 := Lib.hid hM
          by_cases hlt : k < m
          · have hkc : k < cs.length := by have := HM.out.1; omega
            obtain ⟨g, u, hCA, hg, hc⟩ := HCW.out k hkc
            subst hCA
            have hgB : ¬ (g = B ∨ some g = v.ownBlock) := by
              have := HB.out
              rintro (h | h)
              · omega
              · have := HVB.out g h.symm; omega
            have hk6 : k ≤ 1000 := by have := HM.out.1; omega
            obtain ⟨z, hz⟩ : ∃ z, z = cs[k]'hkc := ⟨_, rfl⟩
            have cz : wr.cell? ⟨g, u + k, none⟩ = some (.int .i64 z) := by
              rw [hz]
              have hc2 := (HX.out.2.2.2.1.cell (p := ⟨g, u + k, none⟩) hg).trans hc
              unfold World.cell? at hc2 ⊢
              rw [hM.keeps.block g (Nat.lt_of_lt_of_le hg HX.out.2.2.2.1.size) hgB]; exact hc2
            have HTK2 : Hid (cs.take (k + 1) = cs.take k ++ [z]) := Lib.hid (by rw [hz]; exact List.take_succ_eq_append_getElem hkc)
            have t1 : decide ((k : Int) < (m : Int)) = true := decide_eq_true (by omega)
            have t2 : decide (k < m) = true := decide_eq_true hlt
            have hi0 : (k : Int) < (m : Int) := by omega
            have HLT2 := Lib.hid hlt
            have HLN : Hid ((a5 ++ (cs.take k).map (fun x => (x % 256).toNat)).length ≤ 1000000) := Lib.hid (by
              rw [List.length_append, List.length_map, List.length_take]
              have := HN4.out.1
              have := HM.out.1
              omega)
            clear hz hg hgB hc hkc hk hlt hM
            go_wp2_with fail
            refine (sc_lowest z wr).mono ?_
            rintro x wq ⟨rfl, rfl⟩
            go_wp2_with fail
            have HC := Lib.hid (wr_byte_step B B 0 v2 _ (z % 256) wr HM2.out.it HLN.out)
            refine HC.out.mono ?_
            intro x wz hp
            obtain ⟨rfl, hnx⟩ := mid_step HM2.out hp (by omega)
            have HNX := Lib.hid hnx
            clear hp hnx HC cz t1 t2 hi0
            go_wp2
            go_roundw
            case rel =>
              have hrr : ∃ v2, WrMid wX B B v 0 v2 (a5 ++ (cs.take (k + 1)).map (fun x => (x % 256).toNat)) wz := by
                rw [HTK2.out, List.map_append, List.map_singleton, ← List.append_assoc]
                exact HNX.out
              exact ⟨k + 1, HLT2.out, by go_num, hrr⟩
            case measure => have := HLT2.out; simp [intOf]; omega
          · obtain rfl : k = m := by omega
            have t1 : decide ((k : Int) < (k : Int)) = false := decide_eq_false (by omega)
            have t2 : decide (k < k) = false := decide_eq_false hlt
            clear hlt hk hM
            go_wp2
            go_roundw
            case rel =>
              have hrr : Below w.heap.size w wr ∧ ∃ v, Wr wr B B 0 v (encRp (rs.take (j + 1))) := by
                refine ⟨?_, v2, ?_⟩
                · have kk : Kq.Keeps (fun k => B ≤ k) w wr := (Kq.Keeps.of_below (S := fun k => B ≤ k) HX.out.2.2.2.1 (fun k h1 h2 => absurd h1 (Nat.not_le.2 h2))).trans (HM2.out.keeps.mono (fun k _ h => h.elim (fun h => Nat.le_of_eq h.symm) (fun h => HVB.out k h.symm)))
                  exact kk.below (Nat.le_refl _) (fun k hk h => by have := HB.out; omega)
                · rw [HTK.out.1]
                  have h := HM2.out.it
                  rw [HA5.out] at h
                  have h1 := HM.out.1
                  have hm2 : cs.take k = cs.take 255 := by
                    rcases Nat.le_total cs.length 255 with h2 | h2
                    · rw [List.take_of_length_le (by omega), List.take_of_length_le h2]
                    · rw [show k = 255 by omega]
                  rw [hm2] at h
                  have he : acc ++ RpV.enc ⟨re, rq, rn, cs⟩ = acc ++ [(re % 256).toNat] ++ num8 rq.toNat ++ [(rn / 256 % 256).toNat] ++ [(rn % 256).toNat] ++ [((k : Nat) : Int).toNat] ++ (cs.take 255).map (fun x => (x % 256).toNat) := by
                    rw [Int.toNat_natCast, h1]
                    simp only [RpV.enc, List.append_assoc]
                  rw [he]; exact h
              exact ⟨j + 1, HLT.out.1, by go_num, hrr⟩
            case measure => have := HLT.out.1; simp [intOf]; omega
    · obtain rfl : j = rs.length := by omega
      rw [List.take_length] at hW
      have HW := Lib.hid (And.intro hW hbel)
      have t1 : decide ((rs.length : Int) < (rs.length : Int)) = false := decide_eq_false (by omega)
      have t2 : decide (rs.length < rs.length) = false := decide_eq_false hlt
      clear hlt hj hW hbel
      go_wp2_with fail
      refine (wr_bytes_ok B B v _ wr HW.out.1 (encRp_lt rs)).mono ?_
      rintro x w9 ⟨rfl, rfl⟩
      go_wp2
      go_ret
      exact ⟨rfl, HW.out.2⟩
end Go.Proofs.Ytjilbcefikbihaa
