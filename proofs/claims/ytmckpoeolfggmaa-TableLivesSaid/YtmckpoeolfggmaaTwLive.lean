/- Mathematics of a packet's life in a table. No condition. -/
import Derived.Test.YtmckpoeolfggmaaTwLaw
namespace Go.Proofs.Ytmckpoeolfggmaa
open Go.RowKit Go.Kq
set_option linter.unusedVariables false
theorem drp_none {s : TbV} (h : TbOk s) (f q : Int) : tbR.look (drpV s f q).1.l (f, q) = none := by
  unfold drpV
  by_cases e : tbR.look s.l (f, q) = none
  · rw [if_pos e]; exact e
  · rw [if_neg e]
    show tbR.look (tbR.del s.l (f, q)) (f, q) = none
    rw [Ord.look_del s.l (f, q) (f, q) h.sort, if_pos rfl]
/-- what a packet's two notes leave -/
structure Live (s s3 : TbV) (p : NtV) : Prop where
  ok : TbOk s3
  at_ : tbR.look s3.l p.nm = some (p.as 2)
  len : s3.l.length = s.l.length + 1
  out : ∀ k, k = 3 ∨ k = 4 → appV s3 (p.as k) = (s, 0)
theorem en_as {p : NtV} (hp : PkOk p.p) {k : Int} (h : k = 1 ∨ k = 2 ∨ k = 3 ∨ k = 4) : EnOk [1, 2, 3, 4] (p.as k) := ⟨by show k ∈ _; simp only [List.mem_cons, List.not_mem_nil, or_false]; exact h, hp⟩
theorem out_gone {s : TbV} {p : NtV} (hp : PkOk p.p) (hno : tbR.look s.l p.nm = none) (k : Int) (h : k = 3 ∨ k = 4) : appV s (p.as k) = (s, 0) := by
  rw [app_3 (en_as hp (by omega)) (by show k ≠ 1; omega) (by show k ≠ 2; omega)]
  unfold overV
  rw [show (p.as k).nm = p.nm from rfl, Ord.del_none _ _ hno]
theorem live_of {s s3 : TbV} (h : TbOk s) {p : NtV} (hp : PkOk p.p) (hno : tbR.look s.l p.nm = none) (h3 : TbOk s3) (hr : s3.room = s.room) (hl : ∀ j, tbR.look s3.l j = if j = p.nm then some (p.as 2) else tbR.look s.l j) (hlen : s3.l.length = s.l.length + 1) : Live s s3 p := by
  refine ⟨h3, by rw [hl, if_pos rfl], hlen, fun k hk => ?_⟩
  rw [app_3 (en_as hp (by omega)) (by show k ≠ 1; omega) (by show k ≠ 2; omega)]
  unfold overV
  rw [show (p.as k).nm = p.nm from rfl]
  have : tbR.del s3.l p.nm = s.l := Ord.ext_look (Ord.sort_del _ _ h3.sort) h.sort (fun j => by
    rw [Ord.look_del _ _ _ h3.sort]
    by_cases e : j = p.nm
    · rw [if_pos e, e, hno]
    · rw [if_neg e, hl, if_neg e])
  rw [this, hr]
/-- Sent, then Received -/
theorem live_12 {s : TbV} (h : TbOk s) {p : NtV} (hp : PkOk p.p) (hw : p.wf) (hno : tbR.look s.l p.nm = none) (hroom : s.l.length < s.room) : (appV s (p.as 1)).2 = 0 ∧ (appV (appV s (p.as 1)).1 (p.as 2)).2 = 0 ∧ TbOk (appV s (p.as 1)).1 ∧ Live s (appV (appV s (p.as 1)).1 (p.as 2)).1 p := by
  have e1 : appV s (p.as 1) = (⟨s.room, tbR.ins s.l (p.as 1)⟩, 0) := by
    rw [app_1 (en_as hp (by omega)) rfl]
    unfold sentV
    rw [show tbR.look s.l (p.as 1).nm = none from hno]
    show addV s ((p.as 1).as 1) = _
    unfold addV
    rw [if_neg (by omega)]
    rfl
  have hk1 := appV_ok h (p.as 1) hw
  have hl1 : ∀ j, tbR.look (tbR.ins s.l (p.as 1)) j = if j = p.nm then some (p.as 1) else tbR.look s.l j := fun j => Ord.look_ins s.l (p.as 1) j
  have e2 : appV (appV s (p.as 1)).1 (p.as 2) = (⟨s.room, tbR.ins (tbR.ins s.l (p.as 1)) (p.as 2)⟩, 0) := by
    rw [app_2 (en_as hp (by omega)) rfl, e1]
    unfold recvV
    show (tbR.look (tbR.ins s.l (p.as 1)) p.nm).elim _ _ = _
    rw [hl1, if_pos rfl]
    rfl
  have hk2 := appV_ok hk1 (p.as 2) hw
  refine ⟨by rw [e1], by rw [e2], hk1, live_of h hp hno hk2 (by rw [e2]) (fun j => ?_) ?_⟩
  · rw [e2]
    show tbR.look (tbR.ins (tbR.ins s.l (p.as 1)) (p.as 2)) j = _
    rw [Ord.look_ins, hl1]
    show (if j = p.nm then _ else _) = _
    by_cases e : j = p.nm
    · rw [if_pos e, if_pos e]
    · rw [if_neg e, if_neg e, if_neg e]
  · rw [e2]
    show (tbR.ins (tbR.ins s.l (p.as 1)) (p.as 2)).length = _
    rw [Ord.len_ins _ _ (Ord.sort_ins _ _ h.sort), Ord.len_ins _ _ h.sort]
    rw [show tbR.look (tbR.ins s.l (p.as 1)) (tbR.key (p.as 2)) = some (p.as 1) by rw [hl1]; exact if_pos rfl, show tbR.look s.l (tbR.key (p.as 1)) = none from hno]
    rfl
/-- Received, then Sent -/
theorem live_21 {s : TbV} (h : TbOk s) {p : NtV} (hp : PkOk p.p) (hw : p.wf) (hno : tbR.look s.l p.nm = none) (hroom : s.l.length < s.room) : (appV s (p.as 2)).2 = 0 ∧ (appV (appV s (p.as 2)).1 (p.as 1)).2 = 0 ∧ TbOk (appV s (p.as 2)).1 ∧ Live s (appV (appV s (p.as 2)).1 (p.as 1)).1 p := by
  have e1 : appV s (p.as 2) = (⟨s.room, tbR.ins s.l (p.as 2)⟩, 0) := by
    rw [app_2 (en_as hp (by omega)) rfl]
    unfold recvV
    rw [show tbR.look s.l (p.as 2).nm = none from hno]
    show addV s ((p.as 2).as 2) = _
    unfold addV
    rw [if_neg (by omega)]
    rfl
  have hk1 := appV_ok h (p.as 2) hw
  have hl1 : ∀ j, tbR.look (tbR.ins s.l (p.as 2)) j = if j = p.nm then some (p.as 2) else tbR.look s.l j := fun j => Ord.look_ins s.l (p.as 2) j
  have e2 : appV (appV s (p.as 2)).1 (p.as 1) = (⟨s.room, tbR.ins s.l (p.as 2)⟩, 0) := by
    rw [app_1 (en_as hp (by omega)) rfl, e1]
    unfold sentV
    show (tbR.look (tbR.ins s.l (p.as 2)) p.nm).elim _ _ = _
    rw [hl1, if_pos rfl]
    rfl
  have hk2 := appV_ok hk1 (p.as 1) hw
  refine ⟨by rw [e1], by rw [e2], hk1, live_of h hp hno hk2 (by rw [e2]) (fun j => by rw [e2]; exact hl1 j) ?_⟩
  rw [e2]
  show (tbR.ins s.l (p.as 2)).length = _
  rw [Ord.len_ins _ _ h.sort, show tbR.look s.l (tbR.key (p.as 2)) = none from hno]
  rfl
end Go.Proofs.Ytmckpoeolfggmaa
