/- judge: notice, shutting. -/
import Derived.Test.YtpdnkbhgobdniaaJd1
namespace Go.Proofs.Ytpdnkbhgobdniaa
open Go.RowKit Go.MapKept Go.Maps
/-- What a mark makes of the books. -/
structure TkP (w0 : World) (cb n : Nat) (r : Cp × Int) (e : Ending) (w' : World) : Prop where
  out : e = .returned (.int .i64 r.2)
  ct : ∃ own', Ct w0 w' cb own' (n + 2) r.1 (fun _ => False)
theorem Ct.done {w0 w : World} {cb n : Nat} {own : Ow} {cp : Cp} {X : Sd → Prop} (h : Ct w0 w cb own n cp X) (hx : ∀ q, ¬ X q) : Ct w0 w cb own n cp (fun _ => False) := by
  obtain ⟨h1, h2, h3, g, h4, h5⟩ := h
  exact ⟨h1, h2, h3, g, h4, fun q hq _ => h5 q hq (hx q)⟩
/-- c.of, with the books as they are behind it. -/
structure OfQ (w0 : World) (cb : Nat) (own : Ow) (n : Nat) (cp : Cp) (q : Sd) (w : World) (e : Ending) (w' : World) : Prop where
  out : ∃ r l t own', e = .returned (bval r l t (cp q)) ∧ Ct w0 w' cb own' n cp (fun _ => False) ∧ BkOk w0 w' own' q r l t (cp q) n ∧ (∀ g o, own g = some o → own' g = some o) ∧ (∀ g o, own' g = some o → own g = some o ∨ w.heap.size ≤ g)
  bel : Below w.heap.size w w'
theorem of2 (w0 : World) (cb : Nat) (own : Ow) (n : Nat) (cp : Cp) (q : Sd) (w : World) (h : Ct w0 w cb own n cp (fun _ => False)) (hk : SdK q) (v : Value) (hv : v = sdV q) :
    Calls Try.prog 20 #[.map (some cb), v] w (OfQ w0 cb own n cp q w) :=
  (of_any w0 cb own n cp _ q w h hk (fun h => h) v hv).mono fun e w' hh => by
    obtain ⟨⟨r, l, t, own', h1, h2, h3, h4, h6⟩, h5⟩ := hh
    exact ⟨⟨r, l, t, own', h1, h2 _ h, h3, h4, h6⟩, h5⟩
theorem box3 {w w2 : World} {a b c : Value} {T : TypeId} (hb : Below (w.alloc (.cells #[a, b, c] T)).heap.size (w.alloc (.cells #[a, b, c] T)) w2) : w2.cell? ⟨w.heap.size, 0, none⟩ = some a ∧ w2.cell? ⟨w.heap.size, 1, none⟩ = some b ∧ w2.cell? ⟨w.heap.size, 2, none⟩ = some c ∧ w.heap.size < w2.heap.size ∧ Below w.heap.size w w2 := by
  refine ⟨?_, ?_, ?_, ?_, ((Below.refl _ _).alloc (Nat.le_refl _) _).trans (hb.mono (by simp))⟩
  · rw [hb.cell (p := ⟨w.heap.size, 0, none⟩) (by simp)]; simp [World.cell?_alloc_mark]
  · rw [hb.cell (p := ⟨w.heap.size, 1, none⟩) (by simp)]; simp [World.cell?_alloc_mark]
  · rw [hb.cell (p := ⟨w.heap.size, 2, none⟩) (by simp)]; simp [World.cell?_alloc_mark]
  · have := hb.size; simp at this; omega
set_option maxRecDepth 100000 in
set_option maxHeartbeats 4000000 in
theorem shut_any (w0 : World) (cb : Nat) (own : Ow) (n : Nat) (cp : Cp) (q : Sd) (w : World) (h : Ct w0 w cb own n cp (fun _ => False)) (hk : SdK q) (v : Value) (hv : v = sdV q) :
    Calls Try.prog 28 #[.map (some cb), v] w (TkP w0 cb n (shutJ cp q)) := by
  subst hv
  have HO : Hid (∀ W v, Below w.heap.size w W → v = sdV q → Calls Try.prog 20 #[.map (some cb), v] W (OfQ w0 cb own n cp q W)) := fun W v hW hv => of2 w0 cb own n cp q W (h.below hW) hk v hv
  clear h
  unfold sdV shutJ
  cases hsh : (cp q).shuts
  · cases hen : (cp q).ended
    · rw [if_neg (by simp), if_neg (by simp)]
      go_enter Try.func28, Try.ntmps28
      go_wp2_with (first | (go_at_call 20; refine (HO.out _ _ ((Below.refl _ _).alloc (Nat.le_refl _) _) rfl).mono ?_; rintro e w2 ⟨⟨r, l, t, own', rfl, hct, hbk, _⟩, hbel⟩; obtain ⟨hc0, hc1, hc2, hz, hbw⟩ := box3 hbel; clear hbel; unfold bval; rw [hsh, hen]; have hb3 : Below w2.heap.size w2 (w2.alloc (.cells #[.map (some r), .map (some l), .map (some t), .int .i64 (cp q).owed, .bool (cp q).came, .bool false, .bool true] 54)) := (Below.refl _ _).alloc (Nat.le_refl _) _; obtain ⟨w3, hput, hct4, hfr⟩ := (hct.below hb3).put hk ((hbk.below hb3).flags (cp q).owed (cp q).came (cp q).ended true hbk.b4); unfold bval sdV at hput; rw [hen] at hput; have HC := (show Hid _ from hct4); clear hct hbk hbw hb3 hct4 hfr) | fail)
      go_ret
      exact ⟨rfl, _, (HC.out.done (fun _ h => h.1)).mono (Nat.le_succ (n + 1))⟩
    · rw [if_neg (by simp), if_pos rfl]
      go_enter Try.func28, Try.ntmps28
      go_wp2_with (first | (go_at_call 20; refine (HO.out _ _ ((Below.refl _ _).alloc (Nat.le_refl _) _) rfl).mono ?_; rintro e w2 ⟨⟨r, l, t, own', rfl, hct, hbk, _⟩, hbel⟩; obtain ⟨hc0, hc1, hc2, hz, hbw⟩ := box3 hbel; clear hbel; unfold bval; rw [hsh, hen]; have HC := (show Hid _ from And.intro hct hbw); clear hct hbk hbw) | fail)
      go_ret
      exact ⟨rfl, _, HC.out.1.mono (by omega) |>.below ((Below.refl _ _).alloc (Nat.le_refl _) _)⟩
  · rw [if_pos rfl]
    go_enter Try.func28, Try.ntmps28
    go_wp2_with (first | (go_at_call 20; refine (HO.out _ _ ((Below.refl _ _).alloc (Nat.le_refl _) _) rfl).mono ?_; rintro e w2 ⟨⟨r, l, t, own', rfl, hct, hbk, _⟩, hbel⟩; obtain ⟨hc0, hc1, hc2, hz, hbw⟩ := box3 hbel; clear hbel; unfold bval; rw [hsh]; have HC := (show Hid _ from And.intro hct hbw); clear hct hbk hbw) | fail)
    go_ret
    exact ⟨rfl, _, HC.out.1.mono (by omega) |>.below ((Below.refl _ _).alloc (Nat.le_refl _) _)⟩
set_option maxRecDepth 100000 in
set_option maxHeartbeats 4000000 in
theorem notice_any (w0 : World) (cb : Nat) (own : Ow) (n : Nat) (cp : Cp) (q : Sd) (m : Int) (w : World) (h : Ct w0 w cb own n cp (fun _ => False)) (hk : SdK q) (v : Value) (hv : v = sdV q) :
    Calls Try.prog 27 #[.map (some cb), v, .int .i64 m] w (TkP w0 cb n (noticeJ cp q m)) := by
  subst hv
  have HO : Hid (∀ W v, Below w.heap.size w W → v = sdV q → Calls Try.prog 20 #[.map (some cb), v] W (OfQ w0 cb own n cp q W)) := fun W v hW hv => of2 w0 cb own n cp q W (h.below hW) hk v hv
  clear h
  unfold sdV noticeJ
  by_cases h1 : m < 1
  · rw [if_pos (.inl h1)]
    go_enter Try.func27, Try.ntmps27
    go_wp2_with (first | (go_at_call 20; refine (HO.out _ _ ((Below.refl _ _).alloc (Nat.le_refl _) _) rfl).mono ?_; rintro e w2 ⟨⟨r, l, t, own', rfl, hct, hbk, _⟩, hbel⟩; obtain ⟨hc0, hc1, hc2, hz, hbw⟩ := box3 hbel; clear hbel; unfold bval; have HC := (show Hid _ from And.intro hct hbw); clear hct hbk hbw) | fail)
    go_ret
    exact ⟨rfl, _, HC.out.1.mono (by omega) |>.below ((Below.refl _ _).alloc (Nat.le_refl _) _)⟩
  by_cases h5 : 5 < m
  · rw [if_pos (.inr h5)]
    go_enter Try.func27, Try.ntmps27
    go_wp2_with (first | (go_at_call 20; refine (HO.out _ _ ((Below.refl _ _).alloc (Nat.le_refl _) _) rfl).mono ?_; rintro e w2 ⟨⟨r, l, t, own', rfl, hct, hbk, _⟩, hbel⟩; obtain ⟨hc0, hc1, hc2, hz, hbw⟩ := box3 hbel; clear hbel; unfold bval; have HC := (show Hid _ from And.intro hct hbw); clear hct hbk hbw) | fail)
    go_ret
    exact ⟨rfl, _, HC.out.1.mono (by omega) |>.below ((Below.refl _ _).alloc (Nat.le_refl _) _)⟩
  rw [if_neg (by omega)]
  cases hen : (cp q).ended
  rotate_left
  · rw [if_pos (.inl rfl)]
    go_enter Try.func27, Try.ntmps27
    go_wp2_with (first | (go_at_call 20; refine (HO.out _ _ ((Below.refl _ _).alloc (Nat.le_refl _) _) rfl).mono ?_; rintro e w2 ⟨⟨r, l, t, own', rfl, hct, hbk, _⟩, hbel⟩; obtain ⟨hc0, hc1, hc2, hz, hbw⟩ := box3 hbel; clear hbel; unfold bval; rw [hen]; have HC := (show Hid _ from And.intro hct hbw); clear hct hbk hbw) | fail)
    go_ret
    exact ⟨rfl, _, HC.out.1.mono (by omega) |>.below ((Below.refl _ _).alloc (Nat.le_refl _) _)⟩
  cases hca : (cp q).came
  · rw [if_neg (by simp)]
    by_cases m2 : m = 2
    · subst m2
      rw [if_pos ⟨rfl, rfl⟩]
      go_enter Try.func27, Try.ntmps27
      go_wp2_with (first | (go_at_call 20; refine (HO.out _ _ ((Below.refl _ _).alloc (Nat.le_refl _) _) rfl).mono ?_; rintro e w2 ⟨⟨r, l, t, own', rfl, hct, hbk, _⟩, hbel⟩; obtain ⟨hc0, hc1, hc2, hz, hbw⟩ := box3 hbel; clear hbel; unfold bval; rw [hen, hca]; have HC := (show Hid _ from And.intro hct hbw); clear hct hbk hbw) | fail)
      go_ret
      exact ⟨rfl, _, HC.out.1.mono (by omega) |>.below ((Below.refl _ _).alloc (Nat.le_refl _) _)⟩
    rw [if_neg (by simp [m2])]
    by_cases m1 : m = 1
    · subst m1
      rw [if_pos rfl]
      go_enter Try.func27, Try.ntmps27
      go_wp2_with (first | (go_at_call 20; refine (HO.out _ _ ((Below.refl _ _).alloc (Nat.le_refl _) _) rfl).mono ?_; rintro e w2 ⟨⟨r, l, t, own', rfl, hct, hbk, _⟩, hbel⟩; obtain ⟨hc0, hc1, hc2, hz, hbw⟩ := box3 hbel; clear hbel; unfold bval; rw [hen, hca]; have hb3 : Below w2.heap.size w2 (w2.alloc (.cells #[.map (some r), .map (some l), .map (some t), .int .i64 (cp q).owed, .bool true, .bool false, .bool (cp q).shuts] 54)) := (Below.refl _ _).alloc (Nat.le_refl _) _; obtain ⟨w3, hput, hct4, hfr⟩ := (hct.below hb3).put hk ((hbk.below hb3).flags (cp q).owed true (cp q).ended (cp q).shuts hbk.b4); unfold bval sdV at hput; rw [hen] at hput; have HC := (show Hid _ from hct4); clear hct hbk hbw hb3 hct4 hfr) | fail)
      go_ret
      exact ⟨rfl, _, (HC.out.done (fun _ h => h.1)).mono (Nat.le_succ (n + 1))⟩
    rw [if_neg m1]
    go_enter Try.func27, Try.ntmps27
    go_wp2_with (first | (go_at_call 20; refine (HO.out _ _ ((Below.refl _ _).alloc (Nat.le_refl _) _) rfl).mono ?_; rintro e w2 ⟨⟨r, l, t, own', rfl, hct, hbk, _⟩, hbel⟩; obtain ⟨hc0, hc1, hc2, hz, hbw⟩ := box3 hbel; clear hbel; unfold bval; rw [hen, hca]; have hb3 : Below w2.heap.size w2 (w2.alloc (.cells #[.map (some r), .map (some l), .map (some t), .int .i64 (cp q).owed, .bool false, .bool true, .bool (cp q).shuts] 54)) := (Below.refl _ _).alloc (Nat.le_refl _) _; obtain ⟨w3, hput, hct4, hfr⟩ := (hct.below hb3).put hk ((hbk.below hb3).flags (cp q).owed (cp q).came true (cp q).shuts hbk.b4); unfold bval sdV at hput; rw [hca] at hput; have HC := (show Hid _ from hct4); clear hct hbk hbw hb3 hct4 hfr) | fail)
    go_ret
    exact ⟨rfl, _, (HC.out.done (fun _ h => h.1)).mono (Nat.le_succ (n + 1))⟩
  · by_cases m1 : m = 1
    · subst m1
      rw [if_pos (.inr ⟨rfl, rfl⟩)]
      go_enter Try.func27, Try.ntmps27
      go_wp2_with (first | (go_at_call 20; refine (HO.out _ _ ((Below.refl _ _).alloc (Nat.le_refl _) _) rfl).mono ?_; rintro e w2 ⟨⟨r, l, t, own', rfl, hct, hbk, _⟩, hbel⟩; obtain ⟨hc0, hc1, hc2, hz, hbw⟩ := box3 hbel; clear hbel; unfold bval; rw [hen, hca]; have HC := (show Hid _ from And.intro hct hbw); clear hct hbk hbw) | fail)
      go_ret
      exact ⟨rfl, _, HC.out.1.mono (by omega) |>.below ((Below.refl _ _).alloc (Nat.le_refl _) _)⟩
    rw [if_neg (by simp [m1])]
    rw [if_neg (by simp)]
    rw [if_neg m1]
    by_cases m2 : m = 2
    · subst m2
      go_enter Try.func27, Try.ntmps27
      go_wp2_with (first | (go_at_call 20; refine (HO.out _ _ ((Below.refl _ _).alloc (Nat.le_refl _) _) rfl).mono ?_; rintro e w2 ⟨⟨r, l, t, own', rfl, hct, hbk, _⟩, hbel⟩; obtain ⟨hc0, hc1, hc2, hz, hbw⟩ := box3 hbel; clear hbel; unfold bval; rw [hen, hca]; have hb3 : Below w2.heap.size w2 (w2.alloc (.cells #[.map (some r), .map (some l), .map (some t), .int .i64 (cp q).owed, .bool true, .bool true, .bool (cp q).shuts] 54)) := (Below.refl _ _).alloc (Nat.le_refl _) _; obtain ⟨w3, hput, hct4, hfr⟩ := (hct.below hb3).put hk ((hbk.below hb3).flags (cp q).owed (cp q).came true (cp q).shuts hbk.b4); unfold bval sdV at hput; rw [hca] at hput; have HC := (show Hid _ from hct4); clear hct hbk hbw hb3 hct4 hfr) | fail)
      go_ret
      exact ⟨rfl, _, (HC.out.done (fun _ h => h.1)).mono (Nat.le_succ (n + 1))⟩
    go_enter Try.func27, Try.ntmps27
    go_wp2_with (first | (go_at_call 20; refine (HO.out _ _ ((Below.refl _ _).alloc (Nat.le_refl _) _) rfl).mono ?_; rintro e w2 ⟨⟨r, l, t, own', rfl, hct, hbk, _⟩, hbel⟩; obtain ⟨hc0, hc1, hc2, hz, hbw⟩ := box3 hbel; clear hbel; unfold bval; rw [hen, hca]; have hb3 : Below w2.heap.size w2 (w2.alloc (.cells #[.map (some r), .map (some l), .map (some t), .int .i64 (cp q).owed, .bool true, .bool true, .bool (cp q).shuts] 54)) := (Below.refl _ _).alloc (Nat.le_refl _) _; obtain ⟨w3, hput, hct4, hfr⟩ := (hct.below hb3).put hk ((hbk.below hb3).flags (cp q).owed (cp q).came true (cp q).shuts hbk.b4); unfold bval sdV at hput; rw [hca] at hput; have HC := (show Hid _ from hct4); clear hct hbk hbw hb3 hct4 hfr) | fail)
    go_ret
    exact ⟨rfl, _, (HC.out.done (fun _ h => h.1)).mono (Nat.le_succ (n + 1))⟩
end Go.Proofs.Ytpdnkbhgobdniaa
