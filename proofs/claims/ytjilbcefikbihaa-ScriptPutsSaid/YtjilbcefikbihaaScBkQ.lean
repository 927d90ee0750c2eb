/- What is put is told: mathematics. No condition. -/
import Derived.Test.YtjilbcefikbihaaScFewQ
import Derived.Test.YtjilbcefikbihaaScCgQ
import Derived.Test.YtjilbcefikbihaaWrNewQ
namespace Go.Proofs.Ytjilbcefikbihaa
open Go.RowKit
set_option linter.unusedVariables false
set_option linter.unusedSimpArgs false
def b256 (l : List Nat) : Prop := ∀ x ∈ l, x < 256
theorem b256.app {l m : List Nat} (h : b256 l) (h2 : b256 m) : b256 (l ++ m) := fun x hx => (List.mem_append.1 hx).elim (h x) (h2 x)
theorem txt_appS (l m : List Nat) (hl : b256 l) (hm : b256 m) : txt l ++ txt m = txt (l ++ m) := by
  apply nl_inj
  rw [nl_append, nl_txt l hl, nl_txt m hm, nl_txt _ (hl.app hm)]
theorem txt_nlS (s : ByteArray) : txt (nl s) = s := nl_inj (nl_txt _ (nl_lt s))
theorem raw_front (p r : List Nat) (hp : b256 p) (hr : b256 r) : WireM.raw 0 (txt (p ++ r)) ((p.length : Nat) : Int) = (txt p, 0, txt r) := by
  have hs : (txt (p ++ r)).size = p.length + r.length := by rw [txt_size, List.length_append]
  rw [WireM.raw_ok _ p.length (by omega)]
  have h1 : (txt (p ++ r)).extract 0 p.length = txt p := by
    apply nl_inj
    rw [nl_extract, nl_txt _ (hp.app hr), nl_txt p hp]
    simp
  have h2 : (txt (p ++ r)).extract p.length (txt (p ++ r)).size = txt r := by
    apply nl_inj
    rw [nl_extract, nl_txt _ (hp.app hr), nl_txt r hr, hs]
    simp
  rw [h1, h2]
theorem b256_num8 (n : Nat) : b256 (num8 n) := num8_lt n
theorem b256_hi2 (n : Nat) (h : n ≤ 65535) : b256 (hi2 n) := hi2_lt n h
theorem numF_front (n : Nat) (h : n < 18446744073709551616) (r : List Nat) (hr : b256 r) : numF 0 (txt (num8 n ++ r)) = ((n : Int), 0, txt r) := by
  have h8 : ((8 : Nat) : Int) = (((num8 n).length : Nat) : Int) := rfl
  unfold numF
  rw [h8, raw_front _ _ (b256_num8 n) hr]
  show (((WireM.val (nl (txt (num8 n))) : Nat) : Int), (0 : Int), txt r) = _
  rw [nl_txt _ (b256_num8 n), val_num8 n (by unfold M64; omega)]
theorem byteF_front (n : Nat) (h : n < 256) (r : List Nat) (hr : b256 r) : byteF 0 (txt (n :: r)) = ((n : Int), 0, txt r) := byte_cons n r h hr
theorem pairF_front (n : Nat) (h : n ≤ 65535) (r : List Nat) (hr : b256 r) : pairF 0 (txt (hi2 n ++ r)) = ((n : Int), 0, txt r) := by
  have h2 := b256_hi2 n h
  have e1 : byteF 0 (txt (hi2 n ++ r)) = (((n / 256 : Nat) : Int), 0, txt ([n % 256] ++ r)) := byteF_front (n / 256) (by omega) ([n % 256] ++ r) (fun x hx => by
    rcases List.mem_append.1 hx with h | h
    · have := List.mem_singleton.1 h; omega
    · exact hr x h)
  have e2 : byteF 0 (txt ([n % 256] ++ r)) = (((n % 256 : Nat) : Int), 0, txt r) := byteF_front (n % 256) (by omega) r hr
  unfold pairF
  rw [e1]
  show (((n / 256 : Nat) : Int) * 256 + (byteF 0 (txt ([n % 256] ++ r))).1, (byteF 0 (txt ([n % 256] ++ r))).2) = _
  rw [e2]
  show (((n / 256 : Nat) : Int) * 256 + ((n % 256 : Nat) : Int), (0 : Int), txt r) = _
  congr 1
  omega
theorem textF_front (s : ByteArray) (h : s.size ≤ 65535) (r : List Nat) (hr : b256 r) : textF 0 (txt (hi2 s.size ++ nl s ++ r)) = (s, 0, txt r) := by
  have h2 := b256_hi2 s.size h
  have h3 : b256 (nl s) := nl_lt s
  have e1 : WireM.raw 0 (txt (hi2 s.size ++ nl s ++ r)) ((2 : Nat) : Int) = (txt (hi2 s.size), 0, txt (nl s ++ r)) := by
    rw [List.append_assoc]
    exact raw_front (hi2 s.size) (nl s ++ r) h2 (h3.app hr)
  have e2 : WireM.raw 0 (txt (nl s ++ r)) ((s.size : Nat) : Int) = (s, 0, txt r) := by
    have := raw_front (nl s) r h3 hr
    rw [nl_length, txt_nlS] at this
    exact this
  unfold textF
  rw [e1]
  show WireM.raw 0 (txt (nl s ++ r)) ((WireM.val (nl (txt (hi2 s.size))) : Nat) : Int) = _
  rw [nl_txt _ h2, val_hi2, e2]
/-- what is put is told -/
def FmV.back (F : FmV) : Prop := ∀ (a z : SaV) (r : List Nat), a.wf → F.ok a → z.ws = [] → b256 r → F.get z 0 (txt (F.enc a ++ r)) = (F.keep a z, 0, txt r)
theorem sm_back (g : SaV → Int) (s : SaV → Int → SaV) : (smF g s).back := by
  intro a z r hwf hok hz hr
  have h1 : 0 ≤ g a ∧ g a ≤ 255 := hok
  have e : byteF 0 (txt ([(g a).toNat] ++ r)) = (((g a).toNat : Int), 0, txt r) := byteF_front _ (by omega) r hr
  show (s z (byteF 0 (txt ([(g a).toNat] ++ r))).1, (byteF 0 (txt ([(g a).toNat] ++ r))).2) = _
  rw [e]
  show (s z (((g a).toNat : Nat) : Int), (0 : Int), txt r) = (s z (g a), 0, txt r)
  rw [Int.toNat_of_nonneg h1.1]
theorem nu_back (g : SaV → Int) (s : SaV → Int → SaV) (hg : ∀ a : SaV, a.wf → 0 ≤ g a ∧ g a < 18446744073709551616) : (nuF g s).back := by
  intro a z r hwf hok hz hr
  have h1 := hg a hwf
  have e : numF 0 (txt (num8 (g a).toNat ++ r)) = (((g a).toNat : Int), 0, txt r) := numF_front _ (by omega) r hr
  show (s z (numF 0 (txt (num8 (g a).toNat ++ r))).1, (numF 0 (txt (num8 (g a).toNat ++ r))).2) = _
  rw [e]
  show (s z (((g a).toNat : Nat) : Int), (0 : Int), txt r) = (s z (g a), 0, txt r)
  rw [Int.toNat_of_nonneg h1.1]
theorem tx_back (g : SaV → ByteArray) (s : SaV → ByteArray → SaV) : (txF g s).back := by
  intro a z r hwf hok hz hr
  have e := textF_front (g a) hok r hr
  show (s z (textF 0 (txt (hi2 (g a).size ++ nl (g a) ++ r))).1, (textF 0 (txt (hi2 (g a).size ++ nl (g a) ++ r))).2) = _
  rw [e]
  rfl
theorem getW_back : ∀ (l : List (Bool × Int)) (r : List Nat), okW l → b256 r → getW l.length 0 (txt (encW l ++ r)) = (l, 0, txt r)
  | [], r, _, _ => rfl
  | x :: l, r, h, hr => by
    have h0 := h x List.mem_cons_self
    have hl : okW l := fun y hy => h y (List.mem_cons_of_mem _ hy)
    have hb : b256 (encW l ++ r) := b256.app (encW_lt l hl) hr
    have hb2 : b256 (hi2 x.2.toNat ++ (encW l ++ r)) := (b256_hi2 _ (by omega)).app hb
    have e1 : byteF 0 (txt (encW (x :: l) ++ r)) = (((if x.1 then 1 else 0 : Nat) : Int), 0, txt (hi2 x.2.toNat ++ (encW l ++ r))) := by
      have := byteF_front (if x.1 then 1 else 0) (by split <;> omega) _ hb2
      rw [← this]
      simp only [encW, List.append_assoc, List.singleton_append, List.cons_append, List.nil_append]
    have e2 := pairF_front x.2.toNat (by omega) _ hb
    have ih := getW_back l r hl hr
    show getW (l.length + 1) 0 _ = _
    unfold getW
    dsimp only
    rw [e1]
    dsimp only
    rw [e2]
    dsimp only
    rw [ih]
    dsimp only
    rw [Int.toNat_of_nonneg h0.1]
    have hd : decide (((if x.1 = true then 1 else 0 : Nat) : Int) ≠ 0) = x.1 := by cases x.1 <;> rfl
    rw [hd]
theorem wr_back : wrF.back := by
  intro a z r hwf hok hz hr
  obtain ⟨h1, h2⟩ : a.ws.length ≤ 255 ∧ okW a.ws := hok
  have hb : b256 (encW a.ws ++ r) := b256.app (encW_lt _ h2) hr
  have e1 : byteF 0 (txt ([a.ws.length] ++ encW a.ws ++ r)) = ((a.ws.length : Int), 0, txt (encW a.ws ++ r)) := by
    rw [List.append_assoc]
    exact byteF_front _ (by omega) _ hb
  have e2 := getW_back a.ws r h2 hr
  show ({ z with ws := z.ws ++ (getW (byteF 0 (txt ([a.ws.length] ++ encW a.ws ++ r))).1.toNat (byteF 0 (txt ([a.ws.length] ++ encW a.ws ++ r))).2.1 (byteF 0 (txt ([a.ws.length] ++ encW a.ws ++ r))).2.2).1 }, (getW (byteF 0 (txt ([a.ws.length] ++ encW a.ws ++ r))).1.toNat (byteF 0 (txt ([a.ws.length] ++ encW a.ws ++ r))).2.1 (byteF 0 (txt ([a.ws.length] ++ encW a.ws ++ r))).2.2).2) = _
  rw [e1]
  dsimp only
  rw [Int.toNat_natCast, e2]
  dsimp only
  rw [hz]
  rfl
theorem getL_back : ∀ (l : List FmV), (∀ F ∈ l, F.back ∧ F.by256 ∧ ∀ a z : SaV, (F.keep a z).ws = z.ws) → ∀ (a z : SaV) (r : List Nat), a.wf → okL l a → z.ws = [] → b256 r → getL l z 0 (txt (encFL l a ++ r)) = (keepL l a z, 0, txt r)
  | [], _, _, _, _, _, _, _, _ => rfl
  | f :: l, h, a, z, r, hwf, hok, hz, hr => by
    obtain ⟨hf, hb, hk⟩ := h f List.mem_cons_self
    have hl : ∀ F ∈ l, F.by256 := fun F hF => (h F (List.mem_cons_of_mem _ hF)).2.1
    have hb2 : b256 (encFL l a ++ r) := b256.app (encFL_lt l hl a hwf hok.2) hr
    have e1 := hf a z (encFL l a ++ r) hwf hok.1 hz hb2
    show getL l (f.get z 0 (txt (f.enc a ++ encFL l a ++ r))).1 (f.get z 0 (txt (f.enc a ++ encFL l a ++ r))).2.1 (f.get z 0 (txt (f.enc a ++ encFL l a ++ r))).2.2 = _
    rw [List.append_assoc, e1]
    exact getL_back l (fun F hF => h F (List.mem_cons_of_mem _ hF)) a _ r hwf hok.2 ((hk a z).trans hz) hr
theorem allF_back (l : List FmV) (h : ∀ F ∈ l, F.back ∧ F.by256 ∧ ∀ a z : SaV, (F.keep a z).ws = z.ws) : (allF l).back := fun a z r h1 h2 h3 h4 => getL_back l h a z r h1 h2 h3 h4
theorem fm_back (n : Nat) (hn : n < 9) : (fmOf n).back := by
  have hf : ∀ F ∈ fMs, F.back ∧ F.by256 ∧ ∀ a z : SaV, (F.keep a z).ws = z.ws := fun F hF => by
    simp only [fMs, List.mem_cons, List.not_mem_nil, or_false] at hF
    rcases hF with rfl | rfl | rfl | rfl | rfl | rfl | rfl | rfl
    · exact ⟨sm_back _ _, sm_256 _ _, fun _ _ => rfl⟩
    · exact ⟨sm_back _ _, sm_256 _ _, fun _ _ => rfl⟩
    · exact ⟨nu_back _ _ (fun a h => h.mh), nu_256 _ _, fun _ _ => rfl⟩
    · exact ⟨sm_back _ _, sm_256 _ _, fun _ _ => rfl⟩
    · exact ⟨nu_back _ _ (fun a h => h.pq), nu_256 _ _, fun _ _ => rfl⟩
    · exact ⟨nu_back _ _ (fun a h => h.pt), nu_256 _ _, fun _ _ => rfl⟩
    · exact ⟨tx_back _ _, tx_256 _ _, fun _ _ => rfl⟩
    · exact ⟨tx_back _ _, tx_256 _ _, fun _ _ => rfl⟩
  have hs : ∀ F ∈ [fC, fT, fD], F.back ∧ F.by256 ∧ ∀ a z : SaV, (F.keep a z).ws = z.ws := fun F hF => by
    simp only [List.mem_cons, List.not_mem_nil, or_false] at hF
    rcases hF with rfl | rfl | rfl
    · exact ⟨sm_back _ _, sm_256 _ _, fun _ _ => rfl⟩
    · exact ⟨nu_back _ _ (fun a h => h.t), nu_256 _ _, fun _ _ => rfl⟩
    · exact ⟨tx_back _ _, tx_256 _ _, fun _ _ => rfl⟩
  have : n = 0 ∨ n = 1 ∨ n = 2 ∨ n = 3 ∨ n = 4 ∨ n = 5 ∨ n = 6 ∨ n = 7 ∨ n = 8 := by omega
  rcases this with rfl | rfl | rfl | rfl | rfl | rfl | rfl | rfl | rfl
  · exact allF_back [fC, fT, fD] hs
  · exact (show fC.back from sm_back _ _)
  · exact allF_back [] (fun F hF => by cases hF)
  · exact (show fN.back from sm_back _ _)
  · exact (show fN.back from sm_back _ _)
  · exact (show fN.back from sm_back _ _)
  · exact allF_back fMs hf
  · exact (show fN.back from sm_back _ _)
  · exact wr_back
/-- an act that has bytes -/
structure PutOk (a : SaV) : Prop where
  k : 0 ≤ a.k ∧ a.k < 9
  wf : a.wf
  keep : a = (fmOf a.k.toNat).keep a (zeroK a.k)
  ok : (fmOf a.k.toNat).ok a
def encA (a : SaV) : List Nat := [a.k.toNat] ++ (fmOf a.k.toNat).enc a
theorem encA_lt (a : SaV) (h : PutOk a) : b256 (encA a) := by
  have hk := h.k
  exact b256.app (fun x hx => by have := List.mem_singleton.1 hx; omega) ((keepsHi a.k.toNat (by omega) a).2 h.wf h.ok)
theorem encAs_lt : ∀ (l : List SaV), (∀ a ∈ l, PutOk a) → b256 (l.flatMap encA)
  | [], _ => fun x hx => by cases hx
  | a :: l, h => b256.app (encA_lt a (h a List.mem_cons_self)) (encAs_lt l (fun b hb => h b (List.mem_cons_of_mem _ hb)))
theorem ent_front (a : SaV) (h : PutOk a) (r : List Nat) (hr : b256 r) : entStep (txt (encA a ++ r)) = ((a, 0), txt r) := by
  have hk := h.k
  have hn : a.k.toNat < 9 := by omega
  have hb : b256 ((fmOf a.k.toNat).enc a ++ r) := b256.app ((keepsHi a.k.toNat hn a).2 h.wf h.ok) hr
  have e1 : byteF 0 (txt (encA a ++ r)) = ((a.k.toNat : Int), 0, txt ((fmOf a.k.toNat).enc a ++ r)) := by
    unfold encA
    rw [List.append_assoc]
    exact byteF_front _ (by omega) _ hb
  have e2 := fm_back a.k.toNat hn a (zeroK a.k) r h.wf h.ok rfl hr
  unfold entStep
  rw [e1]
  dsimp only
  have hz : ((a.k.toNat : Nat) : Int) = a.k := Int.toNat_of_nonneg hk.1
  rw [if_pos (by omega), Int.toNat_natCast, hz, e2]
  rw [if_pos rfl, ← h.keep]
theorem ents_back : ∀ (l : List SaV), (∀ a ∈ l, PutOk a) → entF (txt (l.flatMap encA)) = l.map (fun a => (a, (0 : Int)))
  | [], _ => entF_zero _ (by rw [txt_size]; rfl)
  | a :: l, h => by
    have ha := h a List.mem_cons_self
    have hl := encAs_lt l (fun b hb => h b (List.mem_cons_of_mem _ hb))
    have e : (a :: l).flatMap encA = encA a ++ l.flatMap encA := rfl
    have hs : (txt (encA a ++ l.flatMap encA)).size ≠ 0 := by
      rw [txt_size, List.length_append]
      have : (encA a).length = 1 + ((fmOf a.k.toNat).enc a).length := by unfold encA; rw [List.length_append]; rfl
      omega
    rw [e, entF_step _ hs, ent_front a ha _ hl, ents_back l (fun b hb => h b (List.mem_cons_of_mem _ hb))]
    rfl
theorem cfg_back (c : CoV) (hwf : c.wf) (hok : c.ok) (r : List Nat) (hr : b256 r) : cfgF (txt (c.enc ++ r)) = (c, 0, txt r) := by
  obtain ⟨⟨⟨⟨a1, a2⟩, a3⟩, a4⟩, a5⟩ := hok
  obtain ⟨b1, b2, b3, b4⟩ := hwf
  have r9 : b256 r := hr
  have r8 : b256 (num8 c.s1.toNat ++ r) := (b256_num8 _).app r9
  have r7 : b256 (num8 c.s0.toNat ++ (num8 c.s1.toNat ++ r)) := (b256_num8 _).app r8
  have r6 : b256 (num8 c.h1.toNat ++ (num8 c.s0.toNat ++ (num8 c.s1.toNat ++ r))) := (b256_num8 _).app r7
  have r5 : b256 (num8 c.h0.toNat ++ (num8 c.h1.toNat ++ (num8 c.s0.toNat ++ (num8 c.s1.toNat ++ r)))) := (b256_num8 _).app r6
  have r4 : b256 (hi2 c.secs.toNat ++ (num8 c.h0.toNat ++ (num8 c.h1.toNat ++ (num8 c.s0.toNat ++ (num8 c.s1.toNat ++ r))))) := (b256_hi2 _ (by omega)).app r5
  have r3 : b256 (hi2 c.sec.toNat ++ (hi2 c.secs.toNat ++ (num8 c.h0.toNat ++ (num8 c.h1.toNat ++ (num8 c.s0.toNat ++ (num8 c.s1.toNat ++ r)))))) := (b256_hi2 _ (by omega)).app r4
  have r2 : b256 (c.sc.toNat :: (hi2 c.sec.toNat ++ (hi2 c.secs.toNat ++ (num8 c.h0.toNat ++ (num8 c.h1.toNat ++ (num8 c.s0.toNat ++ (num8 c.s1.toNat ++ r))))))) := b256.app (l := [c.sc.toNat]) (fun x hx => by have := List.mem_singleton.1 hx; omega) r3
  have r1 : b256 (c.bt.toNat :: c.sc.toNat :: (hi2 c.sec.toNat ++ (hi2 c.secs.toNat ++ (num8 c.h0.toNat ++ (num8 c.h1.toNat ++ (num8 c.s0.toNat ++ (num8 c.s1.toNat ++ r))))))) := b256.app (l := [c.bt.toNat]) (fun x hx => by have := List.mem_singleton.1 hx; omega) r2
  have he : c.enc ++ r = c.tb.toNat :: c.bt.toNat :: c.sc.toNat :: (hi2 c.sec.toNat ++ (hi2 c.secs.toNat ++ (num8 c.h0.toNat ++ (num8 c.h1.toNat ++ (num8 c.s0.toNat ++ (num8 c.s1.toNat ++ r)))))) := by
    simp only [CoV.enc, CoV.pre, num2, List.append_assoc, List.cons_append, List.nil_append, List.singleton_append]
  rw [he]
  unfold cfgF cfH2 cfH1 cfgP
  simp only [cfA, cfB, cfC, cfD, cfE, cfF, cfG, cfH, cfI]
  rw [byteF_front _ (by omega) _ r1]
  dsimp only
  rw [byteF_front _ (by omega) _ r2]
  dsimp only
  rw [byteF_front _ (by omega) _ r3]
  dsimp only
  rw [pairF_front _ (by omega) _ r4]
  dsimp only
  rw [pairF_front _ (by omega) _ r5]
  dsimp only
  rw [numF_front _ (by omega) _ r6]
  dsimp only
  rw [numF_front _ (by omega) _ r7]
  dsimp only
  rw [numF_front _ (by omega) _ r8]
  dsimp only
  rw [numF_front _ (by omega) _ r9]
  obtain ⟨sec, secs, tb, bt, sc, h0, h1, s0, s1⟩ := c
  simp only at a1 a2 a3 a4 a5 b1 b2 b3 b4 ⊢
  rw [Int.toNat_of_nonneg a1.1, Int.toNat_of_nonneg a2.1, Int.toNat_of_nonneg a3.1, Int.toNat_of_nonneg a4.1, Int.toNat_of_nonneg a5.1, Int.toNat_of_nonneg b1.1, Int.toNat_of_nonneg b2.1, Int.toNat_of_nonneg b3.1, Int.toNat_of_nonneg b4.1]
end Go.Proofs.Ytjilbcefikbihaa
