/- Merged: ScAllN, ScPair. Package script's all: the form that it makes. Condition: each part is a form; no part takes writes. Package script's lowest, putPair, getPair. Condition: numbers are ints. -/
import Derived.Test.YtjilbcefikbihaaScAllQ
import Derived.Test.YtjilbcefikbihaaScAQ
namespace Go.Proofs.Ytjilbcefikbihaa
open Go.RowKit
set_option linter.unusedVariables false
theorem all_is (lo hi : Nat) (Fs : List FmV) (hlen : Fs.length ≤ 100) (hG : ∀ F ∈ Fs, ∀ a e s, (F.get a e s).1.ws = a.ws ∧ (F.get a e s).2.2.size ≤ s.size) (X : Nat) (sl : Value) (w : World) (hF : FsIn lo hi w sl Fs) (hX : w.cell? ⟨X, 0, none⟩ = some sl) (hXlo : lo ≤ X) (hXl : X < hi) (hhi : hi ≤ w.heap.size) :
    FormIs lo hi w (.agg #[.func (.func 62) #[] #[.pointer (some ⟨X, 0, none⟩)], .func (.func 63) #[] #[.pointer (some ⟨X, 0, none⟩)], .func (.func 64) #[] #[.pointer (some ⟨X, 0, none⟩)]]) (allF Fs) := by
  refine ⟨hhi, _, _, _, rfl, ⟨_, _, ⟨rfl, enter_fnS Try.func62 (by kernel_rfl) rfl⟩, ?_⟩, ⟨_, _, ⟨rfl, enter_fnS Try.func63 (by kernel_rfl) rfl⟩, ?_⟩, ⟨_, _, ⟨rfl, enter_fnS Try.func64 (by kernel_rfl) rfl⟩, ?_⟩⟩
  · intro w1 hb base B e v l A a sv T tl hW h1 h2 hA hwf hAB hv hs hl
    exact all_w lo hi w X sl Fs hX hXlo hXl hF hlen w1 hb base B e v l A a sv T tl hW h1 h2 hA hwf hAB hv hs hl
  · intro w1 hb base B e s A a sv T tl hR h1 h2 h3 h4 hA hO hAB hsB hs hn
    exact all_r lo hi w X sl Fs hX hXlo hXl hF hlen w1 hb base B e s A a sv T tl hR h1 h2 h3 h4 hA hO hAB hsB hs hn hG
  · intro w1 hb A a sv T tl B b sv2 T2 tl2 hA hB hwB hAB hsB
    exact all_k lo hi w X sl Fs hX hXlo hXl hF hlen w1 hb A a sv T tl B b sv2 T2 tl2 hA hB hwB hAB hsB
set_option maxRecDepth 100000 in
set_option maxHeartbeats 1600000 in
theorem all_new (lo : Nat) (Fs : List FmV) (hlen : Fs.length ≤ 100) (hG : ∀ F ∈ Fs, ∀ a e s, (F.get a e s).1.ws = a.ws ∧ (F.get a e s).2.2.size ≤ s.size) (sl : Value) (w : World) (hlo : lo ≤ w.heap.size) (hF : FsIn lo w.heap.size w sl Fs) :
    Calls Try.prog 44 #[sl] w fun x w' => ∃ v, x = .returned v ∧ FormIs lo w'.heap.size w' v (allF Fs) ∧ Below w.heap.size w w' := by
  obtain ⟨AA, cap, rfl, hF'⟩ := id hF
  clear hF'
  obtain ⟨n, hn⟩ : ∃ n, n = Fs.length := ⟨_, rfl⟩
  rw [← hn] at hF ⊢
  obtain ⟨F1, hF1⟩ : ∃ z, z = Value.func (.func 62) #[] #[.pointer (some ⟨w.heap.size, 0, none⟩)] := ⟨_, rfl⟩
  obtain ⟨F2, hF2⟩ : ∃ z, z = Value.func (.func 63) #[] #[.pointer (some ⟨w.heap.size, 0, none⟩)] := ⟨_, rfl⟩
  obtain ⟨F3, hF3⟩ : ∃ z, z = Value.func (.func 64) #[] #[.pointer (some ⟨w.heap.size, 0, none⟩)] := ⟨_, rfl⟩
  obtain ⟨W, hW⟩ : ∃ z, z = (w.alloc (.cells #[.slice AA n cap] 125)).alloc (.cells #[F1, F2, F3] 69) := ⟨_, rfl⟩
  have HD : Hid (W.heap[w.heap.size + 1]? = some (.cells #[F1, F2, F3] 69 (0, 0)) ∧ FormIs lo W.heap.size W (.agg #[F1, F2, F3]) (allF Fs) ∧ Below w.heap.size w W) := Lib.hid (by
    have hb1 := Kq.below_alloc w (.cells #[.slice AA n cap] 125)
    have hr1 := Kq.blk_new w #[.slice AA n cap] 125 (0, 0)
    have hb2 := Kq.below_alloc (w.alloc (.cells #[.slice AA n cap] 125)) (.cells #[F1, F2, F3] 69)
    have hr2 := Kq.blk_new (w.alloc (.cells #[.slice AA n cap] 125)) #[F1, F2, F3] 69 (0, 0)
    have hr1' := Kq.below_blk hb2 hr1 (Kq.blk_lt hr1)
    have hbb := hb1.trans (hb2.mono hb1.size)
    rw [World.size_alloc] at hr2
    rw [← hW] at hr1' hr2 hbb
    refine ⟨hr2, ?_, hbb⟩
    rw [hF1, hF2, hF3]
    exact all_is lo W.heap.size Fs hlen hG w.heap.size _ W (hF.mono (Rng.below (Rng.refl _ _ _) hbb (Nat.le_refl _)) hbb.size (Nat.le_refl _)) (Kq.blk_cell hr1' 0) hlo (Kq.blk_lt hr1') (Nat.le_refl _))
  clear hF hn hlen hG hlo
  go_enter Try.func44, Try.ntmps44
  go_wp2
  rw [← hF1, ← hF2, ← hF3, ← hW]
  clear hW hF1 hF2 hF3
  have r0 : W.cell? ⟨w.heap.size + 1, 0, none⟩ = some F1 := Kq.blk_cell HD.out.1 0
  have r1 : W.cell? ⟨w.heap.size + 1, 1, none⟩ = some F2 := Kq.blk_cell HD.out.1 1
  have r2 : W.cell? ⟨w.heap.size + 1, 2, none⟩ = some F3 := Kq.blk_cell HD.out.1 2
  refine bodyPost_ret (v := .agg #[F1, F2, F3]) (by simp [results, Try.results44, go_sem, r0, r1, r2]) rfl ?_
  exact ⟨_, rfl, HD.out.2⟩
end Go.Proofs.Ytjilbcefikbihaa
namespace Go.Proofs.Ytjilbcefikbihaa
open Go.RowKit
set_option linter.unusedVariables false
theorem low8 (n : Int) : bits .and .i64 n 255 = n % 256 := by
  show IntKind.i64.wrap ((BitVec.ofInt 64 n &&& BitVec.ofInt 64 255).toNat : Int) = _
  rw [BitVec.toNat_and, BitVec.toNat_ofInt, show (BitVec.ofInt 64 255).toNat = 2 ^ 8 - 1 from by decide, Nat.and_two_pow_sub_one_eq_mod, IntWalk.i64_in _ (by omega)]
  omega
theorem or8 (a b : Nat) (ha : a < 256) (hb : b < 256) : bits .or .i64 ((a : Int) * 256) (b : Int) = (a : Int) * 256 + b := by
  show IntKind.i64.wrap ((BitVec.ofInt 64 ((a : Int) * 256) ||| BitVec.ofInt 64 (b : Int)).toNat : Int) = _
  have h1 : (BitVec.ofInt 64 ((a : Int) * 256)).toNat = a * 256 := by rw [BitVec.toNat_ofInt]; omega
  have h2 : (BitVec.ofInt 64 (b : Int)).toNat = b := by rw [BitVec.toNat_ofInt]; omega
  rw [BitVec.toNat_or, h1, h2, nat_join 8 (a * 256) b (by omega) hb, IntWalk.i64_in _ (by omega)]
  omega
theorem WrStep.mid {w w1 w2 : World} {base B : Nat} {v v1 : Value} {e e1 : Int} {l l1 : List Nat} {ok1 ok2 : Prop} {add1 add2 : List Nat} {n1 n2 : Nat} {x2 : Ending} (hM : WrMid w base B v e1 v1 l1 w1)
    (g4 : l1.length ≤ l.length + n1) (g5 : ok1 → e1 = e ∧ l1 = l ++ add1) (g6 : ¬ ok1 → e1 = keepE e 1) (h2 : WrStep w1 base B v1 e1 l1 ok2 add2 n2 x2 w2) : WrStep w base B v e l (ok1 ∧ ok2) (add1 ++ add2) (n1 + n2) x2 w2 := by
  obtain ⟨e2, l2, k1, k2, k3, k4⟩ := h2
  have hx : x2 = .returned (.tuple #[]) := k1.1
  obtain ⟨v2, hM2⟩ := hM.step k1
  refine ⟨e2, l2, hx ▸ hM2.post, by omega, fun hok => ?_, fun hok => ?_⟩
  · obtain ⟨rfl, rfl⟩ := g5 hok.1
    obtain ⟨rfl, rfl⟩ := k3 hok.2
    exact ⟨rfl, (List.append_assoc _ _ _)⟩
  · by_cases c1 : ok1
    · rw [k4 (fun c2 => hok ⟨c1, c2⟩), (g5 c1).1]
    · by_cases c2 : ok2
      · rw [(k3 c2).1, g6 c1]
      · rw [k4 c2, g6 c1, keepE_one]
theorem WrStep.as {w w' : World} {base B : Nat} {v : Value} {e : Int} {l add add' : List Nat} {ok ok' : Prop} {n n' : Nat} {x : Ending} (h : WrStep w base B v e l ok add n x w') (hok : ok' ↔ ok) (ha : ok → add = add') (hn : n ≤ n') : WrStep w base B v e l ok' add' n' x w' := by
  obtain ⟨e1, l1, g1, g2, g3, g4⟩ := h
  exact ⟨e1, l1, g1, by omega, fun h => by obtain ⟨a, b⟩ := g3 (hok.1 h); exact ⟨a, by rw [b, ha (hok.1 h)]⟩, fun h => g4 (fun h2 => h (hok.2 h2))⟩
set_option maxRecDepth 100000 in
theorem sc_lowest (n : Int) (w : World) : Calls Try.prog 30 #[.int .i64 n] w fun x w' => x = .returned (.int .i64 (n % 256)) ∧ w = w' := by
  have h := low8 n
  go_enter Try.func30, Try.ntmps30
  go_wp2
  go_ret
  exact ⟨rfl, rfl⟩
theorem hi2_pair (n : Int) (h : 0 ≤ n ∧ n ≤ 65535) : [(n / 256).toNat] ++ [(n % 256).toNat] = hi2 n.toNat := by
  unfold hi2
  rw [show (n / 256).toNat = n.toNat / 256 by omega, show (n % 256).toNat = n.toNat % 256 by omega]
  rfl
set_option maxRecDepth 100000 in
set_option maxHeartbeats 1600000 in
theorem sc_putPair (base B : Nat) (e : Int) (v : Value) (l : List Nat) (n : Int) (w : World) (h : Wr w base B e v l) (hl : l.length ≤ 900000) :
    Calls Try.prog 28 #[.pointer (some ⟨B, 0, none⟩), .int .i64 n] w (WrStep w base B v e l (0 ≤ n ∧ n ≤ 65535) (hi2 n.toNat) 2) := by
  have hsh : n / 2 ^ (8 : Int).toNat = n / 256 := rfl
  have HL := Lib.hid hl
  have HW := Lib.hid (wr_byte_step base B e v l (n / 256) w h (by omega))
  clear h hl
  go_enter Try.func28, Try.ntmps28
  go_wp2_with fail
  refine HW.out.mono ?_
  intro x w2 hp
  have hx := hp.choose_spec.choose_spec.1.1
  subst hx
  obtain ⟨e2, l2, ⟨_, v2, g1, g2, g3⟩, g4, g5, g6⟩ := id hp
  have hl9 := HL.out
  have HW2 := Lib.hid (And.intro (wr_byte_step base B e2 v2 l2 (n % 256) w2 g1 (by omega)) (And.intro (WrMid.mk g1 g2 g3) (And.intro g4 (And.intro g5 g6))))
  clear hp g1 g2 g3 g4 g5 g6 hl9
  go_wp2_with fail
  refine (sc_lowest n w2).mono ?_
  rintro x w3 ⟨rfl, e3⟩
  subst e3
  go_wp2_with fail
  refine HW2.out.1.mono ?_
  intro x w4 hp
  have hx := hp.choose_spec.choose_spec.1.1
  subst hx
  have HQ := Lib.hid hp
  clear hp
  go_wp2
  go_end0
  obtain ⟨_, k2, k3, k4, k5⟩ := HW2.out
  exact (WrStep.mid k2 k3 k4 k5 HQ.out).as (by omega) (fun h => hi2_pair n (by omega)) (Nat.le_refl _)
theorem byte_get (e : Int) (s : ByteArray) : ∃ n : Nat, (byteF e s).1 = (n : Int) ∧ n < 256 := ⟨_, rfl, Nat.lt_of_lt_of_le (whole_lt e s 1) (by decide)⟩
set_option maxRecDepth 100000 in
set_option maxHeartbeats 1600000 in
theorem sc_getPair (B : Nat) (e : Int) (s : ByteArray) (w : World) (h : Rd w B e s) (hs : s.size ≤ maxLen) :
    Calls Try.prog 33 #[.pointer (some ⟨B, 0, none⟩)] w fun x w' => x = .returned (.int .i64 (pairF e s).1) ∧ Rd w' B (pairF e s).2.1 (pairF e s).2.2 ∧ Kq.Keeps (· = B) w w' := by
  have H1 := Lib.hid (rd_byte B e s w h hs)
  have H2 := Lib.hid (fun w2 (h2 : Rd w2 B (byteF e s).2.1 (byteF e s).2.2) => rd_byte B (byteF e s).2.1 (byteF e s).2.2 w2 h2 (Nat.le_trans (raw_left_size e s _) hs))
  obtain ⟨a, ha, ha2⟩ := byte_get e s
  obtain ⟨b, hb, hb2⟩ := byte_get (byteF e s).2.1 (byteF e s).2.2
  have HP : Hid ((pairF e s).1 = (a : Int) * 256 + b) := Lib.hid (by unfold pairF; rw [ha, hb])
  have s1 : IntKind.i64.wrap ((a : Int) * 256) = (a : Int) * 256 := IntWalk.i64_in _ (by omega)
  have s2 := or8 a b ha2 hb2
  have HA := Lib.hid ha
  have HB := Lib.hid hb
  clear h hs ha hb ha2 hb2
  go_enter Try.func33, Try.ntmps33
  go_wp2_with fail
  refine H1.out.mono ?_
  rintro x w2 ⟨hx, R2, K2⟩
  have hx' : x = .returned (.int .i64 (a : Int)) := by rw [← HA.out]; exact hx
  subst hx'
  have HK := Lib.hid (And.intro (show Rd w2 B (byteF e s).2.1 (byteF e s).2.2 from R2) K2)
  clear hx R2 K2
  go_wp2_with fail
  refine (H2.out w2 HK.out.1).mono ?_
  rintro x w3 ⟨hx, R3, K3⟩
  have hx' : x = .returned (.int .i64 (b : Int)) := by rw [← HB.out]; exact hx
  subst hx'
  have HK2 := Lib.hid (And.intro (show Rd w3 B (pairF e s).2.1 (pairF e s).2.2 from R3) (HK.out.2.trans K3))
  clear hx R3 K3
  go_wp2
  go_ret
  exact ⟨by rw [HP.out]; rfl, HK2.out⟩
end Go.Proofs.Ytjilbcefikbihaa
