/- arp: every body is told in a frame once, or waits, or is lost: mathematics. -/
import Derived.Test.YtpmnjfkcffddgaaArK
import Derived.Test.YtpmnjfkcffddgaaEtBkM
namespace Go.Proofs.Ytpmnjfkcffddgaa
open Go.RowKit
def wtD (D : List (Nat × Nbr)) : Nat := sumD (fun x : Nbr => x.ws.length) D
def okFs (mac : Nat) (fs : List (List Nat)) : Prop := ∀ L ∈ fs, tkE L = 0 ∧ tkN L 6 6 = mac
def cntF (fs : List (List Nat)) : Nat := (fs.filter fun L => tkN L 12 2 == 2048).length
def PuOk (D : List (Nat × Nbr)) : Prop := ∀ y ∈ D, y.2.mac < 281474976710655 ∧ (y.2.kn = true → y.2.ws = []) ∧ ∀ b ∈ y.2.ws, b.zs.length ≤ 1500
theorem CaV.pure {w : World} {kd : Nat → RoleA} {p mac ip : Nat} {now lost : Int} {D : List (Nat × Nbr)} (h : CaW w kd p mac ip now lost D) : PuOk D := fun y hy =>
  ⟨(h.each y hy).2.1.mac, (h.each y hy).2.1.none, fun b hb => by obtain ⟨h1, h2, h3, _⟩ := ((h.each y hy).1 trivial).bs b hb; rw [h1.len]; exact h3⟩
theorem ep_ok {t m k : Nat} {zs : List Nat} (ht : t < 281474976710656) (hm : m < 281474976710656) (hk : 1536 ≤ k) (hk2 : k < 65536) (hz : zs.length ≤ 1500) : tkE (epV t m k zs) = 0 ∧ tkN (epV t m k zs) 6 6 = m ∧ tkN (epV t m k zs) 12 2 = k ∧ tkB (epV t m k zs) = zs := by
  have := ep_take t m k zs (by unfold epE; rw [if_neg (by omega), if_neg (by omega)]) hk2
  exact ⟨this.1, this.2.2.1, this.2.2.2.1, this.2.2.2.2⟩
theorem cntF_app (a b : List (List Nat)) : cntF (a ++ b) = cntF a + cntF b := by unfold cntF; rw [List.filter_append, List.length_append]
theorem okFs_app {m : Nat} {a b : List (List Nat)} (h1 : okFs m a) (h2 : okFs m b) : okFs m (a ++ b) := fun L hL => (List.mem_append.1 hL).elim (h1 L) (h2 L)
theorem okFs_nil (m : Nat) : okFs m [] := fun L hL => by cases hL
theorem one_ip {t m : Nat} {zs : List Nat} (ht : t < 281474976710656) (hm : m < 281474976710656) (hz : zs.length ≤ 1500) : okFs m [epV t m 2048 zs] ∧ cntF [epV t m 2048 zs] = 1 := by
  obtain ⟨h1, h2, h3, _⟩ := ep_ok ht hm (k := 2048) (by omega) (by omega) hz
  refine ⟨fun L hL => by simp at hL; subst hL; exact ⟨h1, h2⟩, ?_⟩
  unfold cntF
  rw [List.filter_cons, h3]
  rfl
theorem one_arp {t m op fm fi tm ti : Nat} (ht : t < 281474976710656) (hm : m < 281474976710656) : okFs m [epV t m 2054 (arpB op fm fi tm ti)] ∧ cntF [epV t m 2054 (arpB op fm fi tm ti)] = 0 := by
  obtain ⟨h1, h2, h3, _⟩ := ep_ok ht hm (k := 2054) (zs := arpB op fm fi tm ti) (by omega) (by omega) (by rw [arpB_len]; omega)
  refine ⟨fun L hL => by simp at hL; subst hL; exact ⟨h1, h2⟩, ?_⟩
  unfold cntF
  rw [List.filter_cons, h3]
  rfl
theorem ws_cnt {mac m : Nat} (hm : m < 281474976710656) (hc : mac < 281474976710656) : ∀ (ws : List Bd), (∀ b ∈ ws, b.zs.length ≤ 1500) → okFs mac (ws.map fun b => epV m mac 2048 b.zs) ∧ cntF (ws.map fun b => epV m mac 2048 b.zs) = ws.length := by
  intro ws
  induction ws with
  | nil => intro _; exact ⟨okFs_nil _, rfl⟩
  | cons b ws ih =>
    intro h
    obtain ⟨h1, h2⟩ := ih (fun b hb => h b (List.mem_cons_of_mem _ hb))
    obtain ⟨k1, k2⟩ := one_ip (m := mac) hm hc (h b List.mem_cons_self)
    have e : (b :: ws).map (fun b => epV m mac 2048 b.zs) = [epV m mac 2048 b.zs] ++ ws.map (fun b => epV m mac 2048 b.zs) := rfl
    rw [e]
    exact ⟨okFs_app k1 h1, by rw [cntF_app, k2, h2, List.length_cons]; omega⟩
theorem wt_room {D : List (Nat × Nbr)} (hs : Srt D) (hp : PuOk D) : wtD (roomD D) = wtD D ∧ PuOk (roomD D) ∧ Srt (roomD D) := by
  unfold roomD
  split
  · exact ⟨rfl, hp, hs⟩
  · cases ho : oldD D with
    | none => exact ⟨rfl, hp, hs⟩
    | some y =>
      obtain ⟨h1, h2⟩ := oldD_mem ho
      refine ⟨?_, fun z hz => hp z (delD_mem hz), hs.del _⟩
      have := sum_del (fun x : Nbr => x.ws.length) D y.1
      rw [hs.look (q := y.1) (x := y.2) h1] at this
      have hw := (hp y h1).2.1 h2
      simp [hw] at this
      exact this
theorem sendE_ten (now t : Int) (n : Nat) : sendE now t n ≠ 10 := by
  intro h
  have h1 : atkE now t = 0 ∨ atkE now t = 2 ∨ atkE now t = 18 := by
    unfold atkE
    by_cases h2 : t < 0 ∨ 1099511627776 < t
    · rw [if_pos h2]; simp
    · rw [if_neg h2]
      by_cases h3 : t < now
      · rw [if_pos h3]; simp
      · rw [if_neg h3]; simp
  unfold sendE at h
  by_cases h2 : atkE now t ≠ 0
  · rw [if_pos h2] at h; omega
  · rw [if_neg h2] at h
    by_cases h3 : n = 0 ∨ 1500 < n
    · rw [if_pos h3] at h; cases h
    · rw [if_neg h3] at h; cases h
theorem send_cnt {mac ip : Nat} {now lost : Int} {D : List (Nat × Nbr)} {to : Nat} {zs : List Nat} {t now' lost' : Int} {D' : List (Nat × Nbr)} {er : Nat} {fs : List (List Nat)} (h : SendR mac ip now lost D to zs t now' lost' D' er fs) (hp : PuOk D) (hs : Srt D) (hm : mac < 281474976710655) :
    okFs mac fs ∧ ((if er = 0 ∨ er = 10 then 1 else 0 : Int) + wtD D + lost = cntF fs + wtD D' + lost') := by
  cases h with
  | bad h1 =>
    refine ⟨okFs_nil _, ?_⟩
    rw [if_neg (by have := sendE_ten now t zs.length; omega)]
    simp [cntF]
  | full h1 h2 =>
    refine ⟨okFs_nil _, ?_⟩
    rw [if_pos (by omega)]
    simp [cntF]
    omega
  | known x h1 h2 h3 =>
    obtain ⟨_, _, _, _, hz⟩ := sendE_ok h1
    obtain ⟨k1, k2⟩ := one_ip (t := x.mac) (m := mac) (zs := zs) (by have := (hp _ (lookD_mem h2)).1; dsimp only at this; omega) (by omega) hz
    refine ⟨k1, ?_⟩
    rw [if_pos (by omega), k2]
    omega
  | wait x g c b h1 h2 h3 h4 h5 =>
    refine ⟨okFs_nil _, ?_⟩
    have := sum_put (fun x : Nbr => x.ws.length) D to (waitX x g c b) hs
    rw [h2] at this
    have e : (waitX x g c b).ws.length = x.ws.length + 1 := by unfold waitX; simp
    rw [e] at this
    simp at this
    rw [if_pos (by omega)]
    show _ = (0 : Int) + (wtD _ : Nat) + _
    unfold wtD
    omega
  | ask g c b h1 h2 h3 h5 =>
    obtain ⟨k1, k2⟩ := one_arp (t := 281474976710655) (m := mac) (op := 1) (fm := mac) (fi := ip) (tm := 0) (ti := to) (by omega) (by omega)
    refine ⟨k1, ?_⟩
    obtain ⟨w1, w2, w3⟩ := wt_room hs hp
    have := sum_put (fun x : Nbr => x.ws.length) (roomD D) to (askX (waitX zeroNb g c b) t) w3
    rw [room_look hs h2] at this
    have e : (askX (waitX zeroNb g c b) t).ws.length = 1 := rfl
    rw [e] at this
    simp at this
    rw [if_pos (by omega), k2]
    have e2 : wtD (roomD D) = sumD (fun x : Nbr => x.ws.length) (roomD D) := rfl
    have e3 : wtD (putD (roomD D) to (askX (waitX zeroNb g c b) t)) = sumD (fun x : Nbr => x.ws.length) (putD (roomD D) to (askX (waitX zeroNb g c b) t)) := rfl
    omega
theorem take_cnt {mac ip : Nat} {D : List (Nat × Nbr)} {op : Int} {fm fi ti : Nat} {t : Int} (hp : PuOk D) (hs : Srt D) (hm : mac < 281474976710655) (hfm : fm < 281474976710655) :
    okFs mac (takeF mac ip D op fm fi ti) ∧ wtD D = cntF (takeF mac ip D op fm fi ti) + wtD (takeD ip D fi fm ti t) := by
  have hA : okFs mac (if ti = ip ∧ op = 1 then [epV fm mac 2054 (arpB 2 mac ip fm fi)] else []) ∧ cntF (if ti = ip ∧ op = 1 then [epV fm mac 2054 (arpB 2 mac ip fm fi)] else []) = 0 := by
    split
    · exact one_arp (by omega) (by omega)
    · exact ⟨okFs_nil _, rfl⟩
  unfold takeF takeD
  cases hl : lookD D fi with
  | none =>
    rw [wsF_none hl, List.nil_append]
    refine ⟨hA.1, ?_⟩
    rw [hA.2, if_neg (by simp)]
    split
    · obtain ⟨w1, w2, w3⟩ := wt_room hs hp
      have := sum_put (fun x : Nbr => x.ws.length) (roomD D) fi (knX fm t) w3
      rw [room_look hs hl] at this
      have e : (knX fm t).ws.length = 0 := rfl
      rw [e] at this
      simp at this
      have e2 : wtD (roomD D) = sumD (fun x : Nbr => x.ws.length) (roomD D) := rfl
      have e3 : wtD (putD (roomD D) fi (knX fm t)) = sumD (fun x : Nbr => x.ws.length) (putD (roomD D) fi (knX fm t)) := rfl
      omega
    · omega
  | some x =>
    have hw : nbAt D fi = x := by unfold nbAt; rw [hl]; rfl
    rw [hw]
    obtain ⟨k1, k2⟩ := ws_cnt (mac := mac) (m := fm) (by omega) (by omega) x.ws (hp _ (lookD_mem hl)).2.2
    refine ⟨okFs_app k1 hA.1, ?_⟩
    rw [cntF_app, hA.2, if_pos (by simp)]
    have e : cntF (wsF mac fm x) = x.ws.length := k2
    rw [e]
    have := sum_put (fun x : Nbr => x.ws.length) D fi (knX fm t) hs
    rw [hl] at this
    have e2 : (knX fm t).ws.length = 0 := rfl
    rw [e2] at this
    simp at this
    have e3 : wtD D = sumD (fun x : Nbr => x.ws.length) D := rfl
    have e4 : wtD (putD D fi (knX fm t)) = sumD (fun x : Nbr => x.ws.length) (putD D fi (knX fm t)) := rfl
    omega
theorem tick_cnt {mac ip : Nat} {t lost : Int} {D : List (Nat × Nbr)} (hs : Srt D) (hm : mac < 281474976710655) : ∀ i, i ≤ D.length → okFs mac (tickA mac ip t lost D i).fs ∧ cntF (tickA mac ip t lost D i).fs = 0 ∧ (wtD (tickA mac ip t lost D i).D : Int) + (tickA mac ip t lost D i).lost = wtD D + lost := by
  intro i
  induction i with
  | zero => intro _; exact ⟨okFs_nil _, rfl, rfl⟩
  | succ i ih =>
    intro hi
    obtain ⟨h1, h2, h3⟩ := ih (by omega)
    obtain ⟨y, hy⟩ : ∃ y, D[i]? = some y := ⟨_, List.getElem?_eq_getElem (by omega)⟩
    obtain ⟨s1, s2, _⟩ := tick_keep (mac := mac) (ip := ip) (t := t) (lost := lost) hs i (by omega)
    have hl := s2 i y (Nat.le_refl _) hy
    rw [tickA_step hy]
    unfold tickS
    split
    · refine ⟨h1, h2, ?_⟩
      dsimp only
      have := sum_del (fun x : Nbr => x.ws.length) (tickA mac ip t lost D i).D y.1
      rw [hl] at this
      simp at this
      unfold wtD at *
      omega
    · split
      · obtain ⟨k1, k2⟩ := one_arp (t := 281474976710655) (m := mac) (op := 1) (fm := mac) (fi := ip) (tm := 0) (ti := y.1) (by omega) (by omega)
        refine ⟨okFs_app h1 k1, by dsimp only; rw [cntF_app, h2, k2], ?_⟩
        dsimp only
        have := sum_put (fun x : Nbr => x.ws.length) (tickA mac ip t lost D i).D y.1 (askX y.2 t) s1
        rw [hl] at this
        have e : (askX y.2 t).ws.length = y.2.ws.length := rfl
        rw [e] at this
        simp at this
        unfold wtD at *
        omega
      · exact ⟨h1, h2, h3⟩
end Go.Proofs.Ytpmnjfkcffddgaa
