/- arp: what Send answers, and what becomes of the cache. -/
import Derived.Test.YtfjpckaphfdfnaaGreatDoorAr9
import Derived.Test.YtfjpckaphfdfnaaGreatDoorCopy
import Derived.Test.YtfjpckaphfdfnaaGreatDoorRgZ
namespace Go.Proofs.YtfjpckaphfdfnaaGreatDoor
open Go.RowKit Go.MapKept Go.Maps
/-- The error of a body and a tick. -/
def sendE (now t : Int) (n : Nat) : Nat := if atkE now t ≠ 0 then atkE now t else if n = 0 ∨ 1500 < n then 6 else 0
theorem sendE_ok {now t : Int} {n : Nat} (h : sendE now t n = 0) : 0 ≤ t ∧ t ≤ 1099511627776 ∧ now ≤ t ∧ 0 < n ∧ n ≤ 1500 := by
  have h1 : atkE now t = 0 := by
    unfold sendE at h
    split at h
    · rename_i h1; exact absurd h h1
    · rename_i h1; omega
  have h2 : ¬ (n = 0 ∨ 1500 < n) := by
    intro e
    unfold sendE at h
    rw [if_neg (by rw [h1]; simp), if_pos e] at h
    cases h
  unfold atkE at h1
  split at h1
  · cases h1
  · split at h1
    · cases h1
    · omega
def fullB (D : List (Nat × Nbr)) (to : Nat) : Bool := decide ((nbAt D to).ws.length = 4) || (!(lookD D to).isSome && !roomB D)
inductive SendR (mac ip : Nat) (now lost : Int) (D : List (Nat × Nbr)) (to : Nat) (zs : List Nat) (t : Int) : Int → Int → List (Nat × Nbr) → Nat → List (List Nat) → Prop
  | bad : sendE now t zs.length ≠ 0 → SendR mac ip now lost D to zs t now lost D (sendE now t zs.length) []
  | full : sendE now t zs.length = 0 → fullB D to = true → SendR mac ip now lost D to zs t now (lost + 1) D 10 []
  | known (x : Nbr) : sendE now t zs.length = 0 → lookD D to = some x → x.kn = true → SendR mac ip now lost D to zs t t lost D 0 [epV x.mac mac 2048 zs]
  | wait (x : Nbr) (g c : Nat) (b : Bd) : sendE now t zs.length = 0 → lookD D to = some x → x.kn = false → x.ws.length < 4 → b.zs = zs → SendR mac ip now lost D to zs t t lost (putD D to (waitX x g c b)) 0 []
  | ask (g c : Nat) (b : Bd) : sendE now t zs.length = 0 → lookD D to = none → roomB D = true → b.zs = zs → SendR mac ip now lost D to zs t t lost (putD (roomD D) to (askX (waitX zeroNb g c b) t)) 0 [epV 281474976710655 mac 2054 (arpB 1 mac ip 0 to)]
structure SendP (w : World) (kd : Nat → RoleA) (p mac ip : Nat) (now lost : Int) (D : List (Nat × Nbr)) (to : Nat) (zs : List Nat) (t : Int) (e : Ending) (w' : World) : Prop where
  ex : ∃ kd' now' lost' D' er fs a n c, SendR mac ip now lost D to zs t now' lost' D' er fs ∧ CaW w' kd' p mac ip now' lost' D' ∧ GrowA kd kd' w w' ∧ e = .returned (.tuple #[.slice a n c, .int .i64 (er : Nat)]) ∧ FrsW w' kd' w.heap.size a n c fs
theorem room_look {D : List (Nat × Nbr)} {q : Nat} (hs : Srt D) (h : lookD D q = none) : lookD (roomD D) q = none := by
  unfold roomD
  split
  · exact h
  · split
    · exact h
    · rw [look_del _ _ _ hs]
      split
      · rfl
      · exact h
theorem room_len {D : List (Nat × Nbr)} (hs : Srt D) (h8 : D.length ≤ 8) (h : roomB D = true) : (roomD D).length < 8 := by
  unfold roomB at h
  unfold roomD
  split
  · assumption
  · rename_i hl
    cases ho : oldD D with
    | none => rw [ho, decide_eq_false hl] at h; cases h
    | some y =>
      dsimp only
      have := len_del D y.1
      rw [hs.look (q := y.1) (x := y.2) (oldD_mem ho).1] at this
      simp at this
      omega
theorem zeroNb_W (w : World) (kd : Nat → RoleA) (q : Nat) : NbW w kd q zeroNb := ⟨OwnG.nil _ _, fun g hg => (by cases hg), fun b hb => (by cases hb)⟩
/-- The region in which a body is laid behind those that wait: what is done (3: it is copied, 4: a row of it is made, 5: appended, 7: stored). -/
structure WtG (w W0 : World) (kd : Nat → RoleA) (p mac ip : Nat) (now lost : Int) (D : List (Nat × Nbr)) (q : Nat) (x : Nbr) (bx n : Nat) (zs : List Nat) (θ : Nat × Nat × Nat × Nat × Nat) (l : Nat → Bool) (V : World) : Prop where
  s0 : l 3 = false → V = W0
  s1 : l 3 = true → l 4 = false → Below W0.heap.size W0 V ∧ OwnB V W0.heap.size (some ⟨θ.1, 0, none⟩) n θ.2.1 zs
  s2 : l 4 = true → l 5 = false → ∃ V6, V = V6.alloc (.cells #[.slice (some ⟨θ.1, 0, none⟩) n θ.2.1] 24) ∧ θ.2.2.1 = V6.heap.size ∧ Below W0.heap.size W0 V6 ∧ OwnB V6 W0.heap.size (some ⟨θ.1, 0, none⟩) n θ.2.1 zs
  s3 : l 5 = true → l 7 = false → V.cell? ⟨bx, 4, none⟩ = some (.slice x.a x.n x.c) ∧ V.frozen? ⟨bx, 4, none⟩ = false ∧ WaitP w W0 kd p mac ip now lost D q x bx ⟨some ⟨θ.1, 0, none⟩, n, θ.2.1, zs⟩ θ.2.2.2.1 θ.2.2.2.2 (V.setCell ⟨bx, 4, none⟩ (.slice (some ⟨θ.2.2.2.1, 0, none⟩) (x.n + 1) θ.2.2.2.2))
  s4 : l 7 = true → WaitP w W0 kd p mac ip now lost D q x bx ⟨some ⟨θ.1, 0, none⟩, n, θ.2.1, zs⟩ θ.2.2.2.1 θ.2.2.2.2 V
section
variable {w W0 : World} {kd : Nat → RoleA} {p mac ip : Nat} {now lost : Int} {D : List (Nat × Nbr)} {q : Nat} {x : Nbr} {bx n : Nat} {zs : List Nat} {θ : Nat × Nat × Nat × Nat × Nat} {l : Nat → Bool} {V : World}
theorem updL_neA {l : Nat → Bool} {i j : Nat} (h : j ≠ i) : updL l i j = l j := if_neg h
theorem updL_eqA {l : Nat → Bool} {i : Nat} : updL l i i = true := if_pos rfl
theorem WtG.start (θ : Nat × Nat × Nat × Nat × Nat) : WtG w W0 kd p mac ip now lost D q x bx n zs θ (fun _ => false) W0 :=
  ⟨fun _ => rfl, fun e => (by cases e), fun e => (by cases e), fun e => (by cases e), fun e => (by cases e)⟩
theorem WtG.other (h : WtG w W0 kd p mac ip now lost D q x bx n zs θ l V) (i : Nat) (h3 : 3 ≠ i) (h4 : 4 ≠ i) (h5 : 5 ≠ i) (h7 : 7 ≠ i) : WtG w W0 kd p mac ip now lost D q x bx n zs θ (updL l i) V :=
  ⟨by rw [updL_neA h3]; exact h.s0, by rw [updL_neA h3, updL_neA h4]; exact h.s1, by rw [updL_neA h4, updL_neA h5]; exact h.s2, by rw [updL_neA h5, updL_neA h7]; exact h.s3, by rw [updL_neA h7]; exact h.s4⟩
theorem WtG.call {g6 c6 : Nat} {r : Nat × Nat × Nat} (h4 : l 4 = false) (h5 : l 5 = false) (h7 : l 7 = false) (hb : Below W0.heap.size W0 V) (ho : OwnB V W0.heap.size (some ⟨g6, 0, none⟩) n c6 zs) : WtG w W0 kd p mac ip now lost D q x bx n zs (g6, c6, r) (updL l 3) V :=
  ⟨fun e => (by rw [updL_eqA] at e; cases e), fun _ _ => ⟨hb, ho⟩, fun e => (by rw [updL_neA (by decide), h4] at e; cases e), fun e => (by rw [updL_neA (by decide), h5] at e; cases e), fun e => (by rw [updL_neA (by decide), h7] at e; cases e)⟩
theorem WtG.alloc (h : WtG w W0 kd p mac ip now lost D q x bx n zs θ l V) (h3 : l 3 = true) (h4 : l 4 = false) (h5 : l 5 = false) (h7 : l 7 = false) : WtG w W0 kd p mac ip now lost D q x bx n zs (θ.1, θ.2.1, V.heap.size, θ.2.2.2) (updL l 4) (V.alloc (.cells #[.slice (some ⟨θ.1, 0, none⟩) n θ.2.1] 24)) :=
  ⟨fun e => (by rw [updL_neA (by decide), h3] at e; cases e), fun _ e => (by rw [updL_eqA] at e; cases e), fun _ _ => ⟨V, rfl, rfl, (h.s1 h3 h4).1, (h.s1 h3 h4).2⟩, fun e => (by rw [updL_neA (by decide), h5] at e; cases e), fun e => (by rw [updL_neA (by decide), h7] at e; cases e)⟩
theorem WtG.app {g7 c7 : Nat} (hcl4 : l 3 = true) (h4 : l 4 = true) (h7 : l 7 = false) (k7 : V.cell? ⟨bx, 4, none⟩ = some (.slice x.a x.n x.c)) (f7 : V.frozen? ⟨bx, 4, none⟩ = false) (hw : WaitP w W0 kd p mac ip now lost D q x bx ⟨some ⟨θ.1, 0, none⟩, n, θ.2.1, zs⟩ g7 c7 (V.setCell ⟨bx, 4, none⟩ (.slice (some ⟨g7, 0, none⟩) (x.n + 1) c7))) : WtG w W0 kd p mac ip now lost D q x bx n zs (θ.1, θ.2.1, θ.2.2.1, g7, c7) (updL l 5) V :=
  ⟨fun e => (by rw [updL_neA (by decide), hcl4] at e; cases e), fun _ e => (by rw [updL_neA (by decide), h4] at e; cases e), fun _ e => (by rw [updL_eqA] at e; cases e), fun _ _ => ⟨k7, f7, hw⟩, fun e => (by rw [updL_neA (by decide), h7] at e; cases e)⟩
theorem WtG.store (hcl4 : l 3 = true) (hcl5 : l 4 = true) (h5 : l 5 = true) (hw : WaitP w W0 kd p mac ip now lost D q x bx ⟨some ⟨θ.1, 0, none⟩, n, θ.2.1, zs⟩ θ.2.2.2.1 θ.2.2.2.2 V) : WtG w W0 kd p mac ip now lost D q x bx n zs θ (updL l 7) V :=
  ⟨fun e => (by rw [updL_neA (by decide), hcl4] at e; cases e), fun _ e => (by rw [updL_neA (by decide), hcl5] at e; cases e), fun _ e => (by rw [updL_neA (by decide), h5] at e; cases e), fun _ e => (by rw [updL_eqA] at e; cases e), fun _ => hw⟩
theorem WtG.cell (h : WtG w W0 kd p mac ip now lost D q x bx n zs θ l V) (h7 : l 7 = false) (hst : Stc W0 bx [.bool x.kn, .int .u64 (x.mac : Nat), .int .i64 x.at_, .int .i64 x.ak, .slice x.a x.n x.c]) : V.cell? ⟨bx, 4, none⟩ = some (.slice x.a x.n x.c) := by
  cases h3 : l 3 with
  | false => rw [h.s0 h3]; exact hst.cell 4 _ rfl
  | true =>
    cases h4 : l 4 with
    | false => exact (hst.below (h.s1 h3 h4).1).cell 4 _ rfl
    | true =>
      cases h5 : l 5 with
      | false =>
        obtain ⟨V6, rfl, _, hb, _⟩ := h.s2 h4 h5
        exact ((hst.below hb).below ((Below.refl _ _).alloc (Nat.le_refl _) _)).cell 4 _ rfl
      | true => exact (h.s3 h5 h7).1
end
theorem run_bsl {ρ : Operand → Value} {o : Oper} (g c n : Nat) (V : World) {x : Operand} (ho : o.op = .buildSlice 115 1 #[(0, x)]) (hx : ρ x = .slice (some ⟨g, 0, none⟩) n c) : (execOp ρ o).run Tryz.prog V = .ok (.value (.slice (some ⟨V.heap.size, 0, none⟩) 1 1)) (V.alloc (.cells #[.slice (some ⟨g, 0, none⟩) n c] 24)) := by
  obtain ⟨dst, op, ty, pos, after, guard⟩ := o
  dsimp only at ho
  subst ho
  go_simp
theorem epV_le (t m k : Nat) (zs : List Nat) (h : zs.length ≤ 1500) : (epV t m k zs).length ≤ 1600 := by
  unfold epV
  split
  · simp [bytesB_len]; omega
  · simp
set_option maxRecDepth 100000 in
set_option maxHeartbeats 4000000 in
theorem send_any {w : World} {kd : Nat → RoleA} {p mac ip : Nat} {now lost : Int} {D : List (Nat × Nbr)} (h : CaW w kd p mac ip now lost D) (hl0 : 0 ≤ lost) (hl1 : lost ≤ 1099511627776) (to : Nat) (hto : to < 4294967296) {a : Option Addr} {n c : Nat} {zs : List Nat} (hs : SlK .u8 256 w a n c zs) (hsk : 0 < n → ∀ b off, a = some ⟨b, off, none⟩ → kd b = .no) (t : Int) :
    Calls Tryz.prog 195 #[.pointer (some ⟨p, 0, none⟩), .int .u32 (to : Nat), .slice a n c, .int .i64 t] w (SendP w kd p mac ip now lost D to zs t) := by
  obtain ⟨nv, hst, hlook⟩ := h.looks
  have HMB := (show Hid _ from amayBe_any hst t)
  have hzl := hs.len
  have HSE : Hid (sendE now t zs.length = if atkE now t ≠ 0 then atkE now t else if n = 0 ∨ 1500 < n then 6 else 0) := by show _ = _; rw [hzl]; rfl
  have HH := (show Hid _ from And.intro h (And.intro hs hsk))
  have hpl := h.lt
  by_cases hk : atkE now t ≠ 0
  · have hk1 : ((atkE now t : Nat) : Int) ≠ 0 := by omega
    have HE : Hid (sendE now t zs.length = atkE now t) := by show _ = _; rw [HSE.out, if_pos hk]
    clear hlook hst h hs hsk hzl HSE
    obtain ⟨E, hE⟩ : ∃ E, E = atkE now t := ⟨_, rfl⟩
    rw [← hE] at HMB hk hk1 HE
    clear hE
    go_enter Tryz.func195, Tryz.ntmps195
    go_wp2_with fail
    refine Calls.mono HMB.out ?_
    rintro e w1 ⟨rfl, hb1⟩
    have HB := (show Hid _ from hb1)
    clear hb1
    go_wp2
    go_ret2
    obtain ⟨h, _⟩ := HH.out
    exact ⟨kd, now, lost, D, E, [], none, 0, 0, by rw [← HE.out]; exact .bad (by rw [HE.out]; exact hk), h.below HB.out, GrowA.of_below HB.out, rfl, FrsW.nil _ _ _⟩
  have hk : atkE now t = 0 := by omega
  rw [hk] at HMB
  by_cases hn : n = 0 ∨ 1500 < n
  · have HE : Hid (sendE now t zs.length = 6) := by show _ = _; rw [HSE.out, if_neg (by rw [hk]; simp), if_pos hn]
    clear hlook hst h hs hsk hzl HSE hk
    have hn0 : (n : Int) = 0 ∨ (1500 : Int) < n := by omega
    clear hn
    by_cases hz : (n : Int) = 0
    · obtain rfl : n = 0 := by omega
      clear hn0 hz
      go_enter Tryz.func195, Tryz.ntmps195
      go_wp2_with fail
      refine Calls.mono HMB.out ?_
      rintro e w1 ⟨rfl, hb1⟩
      have HB := (show Hid _ from hb1)
      clear hb1
      go_wp2
      go_ret2
      obtain ⟨h, _⟩ := HH.out
      exact ⟨kd, now, lost, D, 6, [], none, 0, 0, by rw [← HE.out]; exact .bad (by rw [HE.out]; decide), h.below HB.out, GrowA.of_below HB.out, rfl, FrsW.nil _ _ _⟩
    · have hz1 : ((n : Int) == 0) = false := by simpa using hz
      have hz2 : (1500 : Int) < n := by omega
      clear hn0
      go_enter Tryz.func195, Tryz.ntmps195
      go_wp2_with fail
      refine Calls.mono HMB.out ?_
      rintro e w1 ⟨rfl, hb1⟩
      have HB := (show Hid _ from hb1)
      clear hb1
      go_wp2
      go_ret2
      obtain ⟨h, _⟩ := HH.out
      exact ⟨kd, now, lost, D, 6, [], none, 0, 0, by rw [← HE.out]; exact .bad (by rw [HE.out]; decide), h.below HB.out, GrowA.of_below HB.out, rfl, FrsW.nil _ _ _⟩
  have HE : Hid (sendE now t zs.length = 0) := by show _ = _; rw [HSE.out, if_neg (by rw [hk]; simp), if_neg hn]
  have hok := sendE_ok HE.out
  rw [hzl] at hok
  obtain ⟨ht0, ht1, htn, hn0, hn1⟩ := hok
  have HSW : Hid (∀ W, Fr (fun g => kd g ≠ .no) w W → SlK .u8 256 W a n c zs) := fun W hf => Sl.frA hs hf (fun b off e hQ => hQ (hsk hn0 b off e))
  have HX0 : Hid (∀ w1, Below w.heap.size w w1 → NbW w1 kd to (nbAt D to) ∧ (nbAt D to).n = (nbAt D to).ws.length ∧ NbOk now (nbAt D to) ∧ ((lookD D to).isSome = true → lookD D to = some (nbAt D to)) ∧ ((lookD D to).isSome = false → nbAt D to = zeroNb)) := by
    intro w1 hb1
    unfold nbAt
    cases hl : lookD D to with
    | none => exact ⟨zeroNb_W _ _ _, rfl, ⟨by show 0 < _; omega, Int.le_refl _, h.now0, Int.le_refl _, by show (0 : Int) ≤ 3; omega, by show 0 ≤ 4; omega, fun e => (by cases e)⟩, fun e => (by cases e), fun _ => rfl⟩
    | some x =>
      have := h.each _ (lookD_mem hl)
      refine ⟨(this.1 trivial).fr (Q := fun _ => False) (Fr.of_below hb1) (fun _ _ h => h.elim) (fun _ _ _ => rfl), (this.1 trivial).row.len.symm, this.2.1, fun _ => rfl, fun e => (by cases e)⟩
  have hlk := fun W hW => hlook W hW to hto true
  clear hlook HSE hk
  have hz1 : ((n : Int) == 0) = false := by simp; omega
  have hz2 : ¬ (1500 : Int) < n := by omega
  have hzn : ¬ (n : Int) = 0 := by omega
  have HHS := (show Hid _ from And.intro h (And.intro hst hs))
  clear hs hsk hzl h hn
  go_enter Tryz.func195, Tryz.ntmps195
  go_wp2_with fail
  refine Calls.mono HMB.out ?_
  rintro e w1 ⟨rfl, hb1⟩
  have hrun := hlk w1 hb1
  obtain ⟨hxw, hxn, hxo, hx1, hx2⟩ := HX0.out w1 hb1
  have hst1 := hst.below hb1
  have hpl1 := hst1.lt
  have c3 := hst1.cell 3 _ rfl
  have HF : Hid (fullB D to = (decide ((nbAt D to).ws.length = 4) || (!(lookD D to).isSome && !roomB D))) := rfl
  obtain ⟨x, hx⟩ : ∃ x, x = nbAt D to := ⟨_, rfl⟩
  obtain ⟨ok, hok⟩ : ∃ ok, ok = (lookD D to).isSome := ⟨_, rfl⟩
  rw [← hx, ← hok] at hrun hx1 hx2
  rw [← hx, ← hok] at HF
  rw [← hx] at hxw hxn hxo
  simp only [if_true] at hrun
  have HOK := (show Hid _ from hok)
  clear hx hok hlk hst HMB
  obtain ⟨W, hW⟩ : ∃ W, W = w1.alloc (.cells #[.bool x.kn, .int .u64 (x.mac : Nat), .int .i64 x.at_, .int .i64 x.ak, .slice x.a x.n x.c] 166) := ⟨_, rfl⟩
  have b0 : Below w1.heap.size w1 W := by rw [hW]; exact (Below.refl _ _).alloc (Nat.le_refl _) _
  have stN := Stc.new w1 [.bool x.kn, .int .u64 (x.mac : Nat), .int .i64 x.at_, .int .i64 x.ak, .slice x.a x.n x.c] 166 W hW
  have hbW : Below w.heap.size w W := hb1.trans (b0.mono hb1.size)
  have hxW : NbW W kd to x := hxw.fr (Q := fun _ => False) (Fr.of_below b0) (fun _ _ h => h.elim) (fun _ _ _ => rfl)
  have hcW := HHS.out.1.below hbW
  have HB := (show Hid _ from And.intro hbW (And.intro b0 hb1.size))
  have d0 := stN.cell 0 _ rfl
  have d1 := stN.cell 1 _ rfl
  have d2 := stN.cell 2 _ rfl
  have d3 := stN.cell 3 _ rfl
  have d4 := stN.cell 4 _ rfl
  have e4 := hst1.cell 4 _ rfl
  have f4 := hst1.free 4
  have e2 := hst1.cell 2 _ rfl
  have f2 := hst1.free 2
  have HC1 := (show Hid _ from And.intro (HHS.out.1.below hb1) (And.intro hb1 (And.intro hst1 hxw)))
  obtain ⟨kn, nm, at_, ak, wa, wn, wc, ws⟩ := x
  unfold Nbr.v at hrun
  dsimp only at *
  have HX := (show Hid _ from And.intro hxW (And.intro hxo (And.intro hx1 (And.intro hx2 (And.intro hcW stN)))))
  have hlw : IntKind.i64.wrap (lost + 1) = lost + 1 := by rw [IntKind.wrap_i64]; omega
  have hbx : w1.heap.size < W.heap.size := stN.lt
  have hpb : ¬ p = w1.heap.size := by omega
  have hpb2 : ¬ w1.heap.size = p := by omega
  clear hxw hxo hx1 hx2 hb1 b0 hbW hcW stN hxW hst1 d0 d1 d2 d3 d4
  have HXN := (show Hid _ from hxn)
  clear hxn
  by_cases hw4 : wn = 4
  · have hb4 : (((wn : Nat) : Int) == 4) = true := by simp; omega
    have HW4 := (show Hid _ from hw4)
    clear hw4
    go_wp2
    go_ret2
    refine ⟨kd, now, lost + 1, D, 10, [], none, 0, 0, .full HE.out ?_, ((HC1.out.1.lose (lost + 1)).below ((Below.refl _ _).alloc (Nat.le_refl _) _)), ?_, rfl, FrsW.nil _ _ _⟩
    · rw [HF.out]
      have : ws.length = 4 := by rw [← HXN.out]; exact HW4.out
      rw [decide_eq_true this]
      rfl
    · have hk := HC1.out.1.kp
      exact (GrowA.of_below HC1.out.2.1).trans ((GrowA.of_fr (Fr.setCell (fun k => k = p) _ _ _ rfl) (fun g _ e => by rw [e, hk]; exact fun e => (by cases e))).trans (GrowA.of_below ((Below.refl _ _).alloc (Nat.le_refl _) _)))
  have hb4 : (((wn : Nat) : Int) == 4) = false := by simp; omega
  have HW4 : Hid (ws.length < 4) := by show _ < _; have := HX.out.2.1.len; have := HXN.out; dsimp only at *; omega
  clear hw4
  cases ok with
  | true =>
    have hlk := HX.out.2.2.1 rfl
    have HLK := (show Hid _ from hlk)
    clear hlk
    obtain ⟨W3, hW3⟩ : ∃ W3, W3 = (w1.setCell ⟨p, 2, none⟩ (.int .i64 t)).alloc (.cells #[.bool kn, .int .u64 (nm : Nat), .int .i64 at_, .int .i64 ak, .slice wa wn wc] 166) := ⟨_, rfl⟩
    have hzs : (w1.setCell ⟨p, 2, none⟩ (.int .i64 t)).heap.size = w1.heap.size := by simp
    have b3 : Below (w1.setCell ⟨p, 2, none⟩ (.int .i64 t)).heap.size (w1.setCell ⟨p, 2, none⟩ (.int .i64 t)) W3 := by rw [hW3]; exact (Below.refl _ _).alloc (Nat.le_refl _) _
    have st3 := Stc.new (w1.setCell ⟨p, 2, none⟩ (.int .i64 t)) [.bool kn, .int .u64 (nm : Nat), .int .i64 at_, .int .i64 ak, .slice wa wn wc] 166 W3 hW3
    rw [hzs] at st3
    have hc3 := (HC1.out.1.tick t htn ht1).below b3
    have hf3 : Fr (fun k => k = p) w1 W3 := (Fr.setCell (fun k => k = p) w1 ⟨p, 2, none⟩ (.int .i64 t) rfl).trans (Fr.of_below b3)
    have hkp := HC1.out.1.kp
    have hg3 : GrowA kd kd w W3 := (GrowA.of_below HC1.out.2.1).trans (GrowA.of_fr hf3 (fun g _ e => by rw [e, hkp]; exact fun e => (by cases e)))
    have hs3 := HSW.out W3 hg3.fr
    obtain ⟨nv3, hst3, _⟩ := hc3.looks
    have d0 := st3.cell 0 _ rfl
    have d1 := st3.cell 1 _ rfl
    cases kn with
    | true =>
      have HFR := (show Hid _ from frame_any hst3 (by have := hc3.mac1; omega) nm 2048 a n c zs (by have := HX.out.2.1.mac; dsimp only at this; omega) (by omega) hs3)
      have HY := (show Hid _ from And.intro hc3 hg3)
      clear st3 hc3 hg3 hf3 hs3 hst3 b3 d0 d1
      go_wp2_with fail
      rw [← hW3]
      clear hW3
      refine Calls.mono HFR.out ?_
      rintro e w4 ⟨⟨a4, c4, rfl, hr4⟩, hb4⟩
      have HR := (show Hid _ from And.intro hr4 hb4)
      clear hr4 hb4
      go_wp2
      go_ret2
      obtain ⟨hc3, hg3⟩ := HY.out
      obtain ⟨hr4, hb4⟩ := HR.out
      have hc4 := hc3.below hb4
      have ba : Below w4.heap.size w4 (w4.alloc (.cells #[.slice a4 (epV nm mac 2048 zs).length c4] 24)) := (Below.refl _ _).alloc (Nat.le_refl _) _
      have hsz := Nat.le_trans hg3.fr.size hb4.size
      have hll : (epV nm mac 2048 zs).length ≤ 1600 := epV_le nm mac 2048 zs (by rw [HH.out.2.1.len]; omega)
      exact ⟨kd, t, lost, D, 0, _, _, _, _, .known _ HE.out HLK.out rfl, hc4.below ba, hg3.trans (GrowA.of_below (hb4.trans (ba.mono hb4.size))), rfl, FrsW.one (hr4.base hg3.fr.size) (by omega) (fun g hg => hc3.fresh g (hr4.own.lt g hg).1) hc4.fresh hsz⟩
    | false =>
      have hx3 : NbW W3 kd to ⟨false, nm, at_, ak, wa, wn, wc, ws⟩ := HC1.out.2.2.2.fr hf3 (fun g _ hQ => by rw [hQ, hkp]; exact ⟨fun e => (by cases e), fun e => (by cases e)⟩) (fun _ _ _ => rfl)
      have HSL := (show Hid _ from clone_any a n c zs W3.drew (hs3.below (Below.refl _ _).drew) (by omega))
      have HWA : Hid (∀ w6, Below W3.drew.heap.size W3.drew w6 → ∀ g6 c6, OwnB w6 W3.drew.heap.size (some ⟨g6, 0, none⟩) n c6 zs → ∃ g7 c7 w7, (Builtin.append_ #[115, 115] 115 #[.slice wa wn wc, .slice (some ⟨w6.heap.size, 0, none⟩) 1 1]).run Tryz.prog (w6.alloc (.cells #[.slice (some ⟨g6, 0, none⟩) n c6] 24)) = .ok (.slice (some ⟨g7, 0, none⟩) (wn + 1) c7) w7 ∧ w7.cell? ⟨w1.heap.size, 4, none⟩ = some (.slice wa wn wc) ∧ w7.frozen? ⟨w1.heap.size, 4, none⟩ = false ∧
          WaitP w W3.drew kd p mac ip t lost D to ⟨false, nm, at_, ak, wa, wn, wc, ws⟩ w1.heap.size ⟨some ⟨g6, 0, none⟩, n, c6, zs⟩ g7 c7 (w7.setCell ⟨w1.heap.size, 4, none⟩ (.slice (some ⟨g7, 0, none⟩) (wn + 1) c7))) := by
        intro w6 hb6 g6 c6 ho6
        exact wait_app (x := ⟨false, nm, at_, ak, wa, wn, wc, ws⟩) (hg3.trans (GrowA.of_below (Below.refl _ _).drew)) (hc3.below (Below.refl _ _).drew) (hx3.fr (Q := fun _ => False) (Fr.of_below (Below.refl _ _).drew) (fun _ _ h => h.elim) (fun _ _ _ => rfl)) HW4.out (HHS.out.1.fresh _ HB.out.2.2) HB.out.2.2 (st3.below (Below.refl _ _).drew) hb6 ho6 hn0 hn1 115
      have HCL : Hid (∀ θ l V, l 7 = false → WtG w W3.drew kd p mac ip t lost D to ⟨false, nm, at_, ak, wa, wn, wc, ws⟩ w1.heap.size n zs θ l V → V.cell? ⟨w1.heap.size, 4, none⟩ = some (.slice wa wn wc)) := fun θ l V h7 hg => hg.cell h7 (st3.below (Below.refl _ _).drew)
      clear st3 hc3 hg3 hf3 hs3 hst3 b3 hx3
      clear d0 d1
      go_wp2_with fail
      rw [← hW3]
      clear hW3
      refine wp_region_parW mixedX (fun θ : Nat × Nat × Nat × Nat × Nat => [(68, .pointer (some ⟨w1.heap.size, 4, none⟩)), (69, .slice wa wn wc), (70, .slice a n c), (71, .slice (some ⟨θ.1, 0, none⟩) n θ.2.1), (72, .slice (some ⟨θ.2.2.1, 0, none⟩) 1 1), (73, .slice (some ⟨θ.2.2.2.1, 0, none⟩) (wn + 1) θ.2.2.2.2), (74, .pointer (some ⟨w1.heap.size, 4, none⟩))]) (WtG w W3.drew kd p mac ip t lost D to ⟨false, nm, at_, ak, wa, wn, wc, ws⟩ w1.heap.size n zs) (0, 0, 0, 0, 0) ?Y1 ?hY1 (by kernel_rfl) (by kernel_rfl) (fun θ => by kernel_rfl) (by kernel_rfl) ?g01 ?gops1 ?ge1
      case hY1 => intro θ; simp only [List.foldl_cons, List.foldl_nil, List.setIfInBounds_toArray, List.set_cons_zero, List.set_cons_succ]; rfl
      case g01 => exact WtG.start _
      case gops1 =>
        refine ⟨?_, ?_, ?_, ?_, ?_, ?_, ?_, ?_, trivial⟩
        · exact par_val (fun θ => by rfl) (fun θ l V hg => hg.other 0 (by decide) (by decide) (by decide) (by decide)) (fun θ l V hl hc hd hg => by go_simp; (try with_reducible rfl); (try omega))
        · exact par_val (fun θ => by rfl) (fun θ l V hg => hg.other 1 (by decide) (by decide) (by decide) (by decide)) (fun θ l V hl hc hd hg => by have h7 : l 7 = false := (by cases h : l 7 with | false => rfl | true => exact absurd (hc 7 1 (by kernel_rfl) h) (by rw [hl]; decide)); have d4 := HCL.out θ l V h7 hg; go_simp; (try with_reducible rfl); (try omega))
        · exact par_val (fun θ => by rfl) (fun θ l V hg => hg.other 2 (by decide) (by decide) (by decide) (by decide)) (fun θ l V hl hc hd hg => by go_simp; (try with_reducible rfl); (try omega))
        · exact par_call (fun θ => by rfl) rfl (vs := fun _ => [.slice a n c]) (fun θ => by rfl) Tryz.func97 (by rfl) (by rfl) (fun θ l V hl hc hd hg => by
            have h4 : l 4 = false := (by cases h : l 4 with | false => rfl | true => exact absurd (hc 4 3 (by kernel_rfl) h) (by rw [hl]; decide))
            have h5 : l 5 = false := (by cases h : l 5 with | false => rfl | true => exact absurd (hc 5 3 (by kernel_rfl) h) (by rw [hl]; decide))
            have h7 : l 7 = false := (by cases h : l 7 with | false => rfl | true => exact absurd (hc 7 3 (by kernel_rfl) h) (by rw [hl]; decide))
            obtain rfl := hg.s0 hl
            refine Calls.mono HSL.out ?_
            rintro e V2 ⟨a6, c6, rfl, ho6, hg6, hb6⟩
            obtain ⟨g6, rfl⟩ := hg6 hn0
            exact ⟨_, rfl, next_set (by kernel_rfl) (g6, c6, θ.2.2) [(71, .slice (some ⟨g6, 0, none⟩) n c6, 3)] (by simp only [List.foldl_cons, List.foldl_nil, List.setIfInBounds_toArray, List.set_cons_zero, List.set_cons_succ]) (by kernel_rfl) (fun y hy => by simp at hy; subst hy; exact hl) (fun d hd => by cases hd; rfl) (WtG.call h4 h5 h7 hb6 ho6)⟩)
        · exact par_run (fun θ => by rfl) (fun θ l V hl hc hd hg => by
            have h3 : l 3 = true := hd 3 (by kernel_rfl)
            have h5 : l 5 = false := (by cases h : l 5 with | false => rfl | true => exact absurd (hc 5 4 (by kernel_rfl) h) (by rw [hl]; decide))
            have h7 : l 7 = false := (by cases h : l 7 with | false => rfl | true => exact absurd (hc 7 4 (by kernel_rfl) h) (by rw [hl]; decide))
            refine ⟨_, _, run_bsl θ.1 θ.2.1 n V (by rfl) (by rfl), ?_⟩
            exact next_set (by kernel_rfl) (θ.1, θ.2.1, V.heap.size, θ.2.2.2) [(72, .slice (some ⟨V.heap.size, 0, none⟩) 1 1, 4)] (by simp only [List.foldl_cons, List.foldl_nil, List.setIfInBounds_toArray, List.set_cons_zero, List.set_cons_succ]) (by kernel_rfl) (fun y hy => by simp at hy; subst hy; exact hl) (fun d hd => by cases hd; rfl) (hg.alloc h3 hl h5 h7))
        · exact par_run (fun θ => by rfl) (fun θ l V hl hc hd hg => by
            have h4 : l 4 = true := hd 4 (by kernel_rfl)
            have h7 : l 7 = false := (by cases h : l 7 with | false => rfl | true => exact absurd (hc 7 5 (by kernel_rfl) h) (by rw [hl]; decide))
            obtain ⟨V6, rfl, hV6, hb6, ho6⟩ := hg.s2 h4 hl
            obtain ⟨g7, c7, V7, hr7, k7, f7, hw7⟩ := HWA.out V6 hb6 θ.1 θ.2.1 ho6
            refine ⟨_, V7, run_appX (S := 115) rfl rfl (by rfl) (by rfl) (by rw [hV6]; exact hr7), ?_⟩
            exact next_set (by kernel_rfl) (θ.1, θ.2.1, θ.2.2.1, g7, c7) [(73, .slice (some ⟨g7, 0, none⟩) (wn + 1) c7, 5)] (by simp only [List.foldl_cons, List.foldl_nil, List.setIfInBounds_toArray, List.set_cons_zero, List.set_cons_succ]) (by kernel_rfl) (fun y hy => by simp at hy; subst hy; exact hl) (fun d hd => by cases hd; rfl) (WtG.app (hcl4 := hc 4 3 (by kernel_rfl) h4) h4 h7 k7 f7 hw7))
        · exact par_val (fun θ => by rfl) (fun θ l V hg => hg.other 6 (by decide) (by decide) (by decide) (by decide)) (fun θ l V hl hc hd hg => by go_simp; (try with_reducible rfl); (try omega))
        · exact par_skip (fun θ => by rfl) (fun θ l V hl hc hd hg => by
            have h5 : l 5 = true := hd 5 (by kernel_rfl)
            obtain ⟨k7, f7, hw7⟩ := hg.s3 h5 hl
            refine ⟨V.setCell ⟨w1.heap.size, 4, none⟩ (.slice (some ⟨θ.2.2.2.1, 0, none⟩) (wn + 1) θ.2.2.2.2), by go_simp, θ, fun _ _ _ _ _ _ => rfl, fun d hd => (by cases hd), WtG.store (hcl5 := hc 5 4 (by kernel_rfl) h5) (hcl4 := hc 4 3 (by kernel_rfl) (hc 5 4 (by kernel_rfl) h5)) h5 hw7⟩)
      case ge1 =>
      rintro ⟨g6, c6, b6, g7, c7⟩ l w8 hall hg
      have HWP := (show Hid _ from hg.s4 (hall 7 (by decide)))
      clear hg hall
      obtain ⟨⟨kd8, hc8, hx8, hg8⟩, st8⟩ := HWP.out
      have HK := (show Hid _ from keepD hc8 _ hx8 (show NbOk t (waitX ⟨false, nm, at_, ak, wa, wn, wc, ws⟩ g7 c7 ⟨some ⟨g6, 0, none⟩, n, c6, zs⟩) from ⟨HX.out.2.1.mac, HX.out.2.1.at0, (HX.out.2.1.later htn).at1, HX.out.2.1.ak0, HX.out.2.1.ak1, by show (ws ++ [_]).length ≤ 4; have := HW4.out; simp; omega, fun e => (by cases e)⟩) hto (.inl (by rw [HLK.out]; rfl)))
      unfold Nbr.v waitX at HK
      dsimp only at HK st8
      have i0 := st8.cell 0 _ rfl
      have i1 := st8.cell 1 _ rfl
      have i2 := st8.cell 2 _ rfl
      have i3 := st8.cell 3 _ rfl
      have i4 := st8.cell 4 _ rfl
      have HG8 := (show Hid _ from hg8)
      clear hc8 hx8 hg8 st8
      go_wp2_with fail
      refine Calls.mono HK.out ?_
      rintro e w9 ⟨rfl, kd9, hc9, hg9⟩
      have HC9 := (show Hid _ from And.intro hc9 hg9)
      clear hc9 hg9
      go_wp2
      go_ret2
      exact ⟨kd9, t, lost, _, 0, [], none, 0, 0, .wait _ g7 c7 ⟨some ⟨g6, 0, none⟩, n, c6, zs⟩ HE.out HLK.out rfl HW4.out rfl, HC9.out.1, HG8.out.trans HC9.out.2, rfl, FrsW.nil _ _ _⟩
  | false =>
    have hz := HX.out.2.2.2.1 rfl
    obtain ⟨rfl, rfl, rfl, rfl, rfl, rfl, rfl, rfl⟩ : kn = false ∧ nm = 0 ∧ at_ = 0 ∧ ak = 0 ∧ wa = none ∧ wn = 0 ∧ wc = 0 ∧ ws = [] := by
      unfold zeroNb at hz
      injection hz with z1 z2 z3 z4 z5 z6 z7 z8
      exact ⟨z1, z2, z3, z4, z5, z6, z7, z8⟩
    clear hz hb4
    have HLN : Hid (lookD D to = none) := by
      show _ = _
      cases hl : lookD D to with
      | none => rfl
      | some y => have := HOK.out; rw [hl] at this; cases this
    have HRM := (show Hid _ from room_any HX.out.2.2.2.2.1)
    replace hW : W = w1.alloc (.cells #[.bool false, .int .u64 0, .int .i64 0, .int .i64 0, .slice none 0 0] 166) := hW
    go_wp2_with fail
    rw [← hW]
    clear hW hrun c3 e4 f4 e2 f2
    refine Calls.mono HRM.out ?_
    rintro e w2 ⟨rfl, hc2, hg2⟩
    have hkb : kd w1.heap.size = .no := HHS.out.1.fresh _ HB.out.2.2
    have stB := HX.out.2.2.2.2.2.fr hg2.fr (fun e => e hkb)
    obtain ⟨nv2, hst2, _⟩ := hc2.looks
    have e4 := hst2.cell 4 _ rfl
    have f4 := hst2.free 4
    have e2 := hst2.cell 2 _ rfl
    have f2 := hst2.free 2
    have hgB : GrowA kd kd w w2 := (GrowA.of_below HB.out.1).trans hg2
    cases hrb : roomB D with
    | false =>
      have HRB := (show Hid _ from hrb)
      have HC2 := (show Hid _ from And.intro hc2 hgB)
      have HRD : Hid (roomD D = D) := by
        show _ = _
        unfold roomB at hrb
        unfold roomD
        split
        · rfl
        · cases ho : oldD D with
          | none => rfl
          | some y => rw [ho] at hrb; simp at hrb
      clear hrb hc2 hg2 hgB hst2 stB
      go_wp2
      go_ret2
      refine ⟨kd, now, lost + 1, D, 10, [], none, 0, 0, .full HE.out ?_, ?_, ?_, rfl, FrsW.nil _ _ _⟩
      · rw [HF.out, HRB.out]; rfl
      · have := HC2.out.1.lose (lost + 1)
        rw [HRD.out] at this
        exact this
      · have hk := HC2.out.1.kp
        exact HC2.out.2.trans (GrowA.of_fr (Fr.setCell (fun k => k = p) _ _ _ rfl) (fun g _ e => by rw [e, hk]; exact fun e => (by cases e)))
    | true =>
      have HRB := (show Hid _ from hrb)
      obtain ⟨W3, hW3⟩ : ∃ W3, W3 = w2.setCell ⟨p, 2, none⟩ (.int .i64 t) := ⟨_, rfl⟩
      have hc3 := hc2.tick t htn ht1
      rw [← hW3] at hc3
      have hf3 : Fr (fun k => k = p) w2 W3 := by rw [hW3]; exact Fr.setCell (fun k => k = p) w2 ⟨p, 2, none⟩ (.int .i64 t) rfl
      have hkp := hc2.kp
      have hg3 : GrowA kd kd w W3 := hgB.trans (GrowA.of_fr hf3 (fun g _ e => by rw [e, hkp]; exact fun e => (by cases e)))
      have hs3 := HSW.out W3 hg3.fr
      have st3 := stB.fr hf3 hpb2
      have hx3 : NbW W3 kd to ⟨false, 0, 0, 0, none, 0, 0, []⟩ := zeroNb_W _ _ _
      have d0 := stB.cell 0 _ rfl
      have b3 := trivial
      have hst3 := trivial
      have HLR : Hid (lookD (roomD D) to = none ∧ (roomD D).length < 8) := ⟨room_look HHS.out.1.srt HLN.out, room_len HHS.out.1.srt HHS.out.1.len hrb⟩
      clear hc2 hg2 hgB hst2 stB hrb
      have HSL := (show Hid _ from clone_any a n c zs W3.drew (hs3.below (Below.refl _ _).drew) (by omega))
      have HWA : Hid (∀ w6, Below W3.drew.heap.size W3.drew w6 → ∀ g6 c6, OwnB w6 W3.drew.heap.size (some ⟨g6, 0, none⟩) n c6 zs → ∃ g7 c7 w7, (Builtin.append_ #[115, 115] 115 #[.slice none 0 0, .slice (some ⟨w6.heap.size, 0, none⟩) 1 1]).run Tryz.prog (w6.alloc (.cells #[.slice (some ⟨g6, 0, none⟩) n c6] 24)) = .ok (.slice (some ⟨g7, 0, none⟩) (0 + 1) c7) w7 ∧ w7.cell? ⟨w1.heap.size, 4, none⟩ = some (.slice none 0 0) ∧ w7.frozen? ⟨w1.heap.size, 4, none⟩ = false ∧
          WaitP w W3.drew kd p mac ip t lost (roomD D) to ⟨false, 0, 0, 0, none, 0, 0, []⟩ w1.heap.size ⟨some ⟨g6, 0, none⟩, n, c6, zs⟩ g7 c7 (w7.setCell ⟨w1.heap.size, 4, none⟩ (.slice (some ⟨g7, 0, none⟩) (0 + 1) c7))) := by
        intro w6 hb6 g6 c6 ho6
        exact wait_app (x := ⟨false, 0, 0, 0, none, 0, 0, []⟩) (hg3.trans (GrowA.of_below (Below.refl _ _).drew)) (hc3.below (Below.refl _ _).drew) (hx3.fr (Q := fun _ => False) (Fr.of_below (Below.refl _ _).drew) (fun _ _ h => h.elim) (fun _ _ _ => rfl)) HW4.out (HHS.out.1.fresh _ HB.out.2.2) HB.out.2.2 (st3.below (Below.refl _ _).drew) hb6 ho6 hn0 hn1 115
      have HCL : Hid (∀ θ l V, l 7 = false → WtG w W3.drew kd p mac ip t lost (roomD D) to ⟨false, 0, 0, 0, none, 0, 0, []⟩ w1.heap.size n zs θ l V → V.cell? ⟨w1.heap.size, 4, none⟩ = some (.slice none 0 0)) := fun θ l V h7 hg => hg.cell h7 (st3.below (Below.refl _ _).drew)
      clear st3 hc3 hg3 hf3 hs3 hst3 b3 hx3
      go_wp2_with fail
      rw [← hW3]
      clear hW3 d0
      refine wp_region_parW mixedX (fun θ : Nat × Nat × Nat × Nat × Nat => [(68, .pointer (some ⟨w1.heap.size, 4, none⟩)), (69, .slice none 0 0), (70, .slice a n c), (71, .slice (some ⟨θ.1, 0, none⟩) n θ.2.1), (72, .slice (some ⟨θ.2.2.1, 0, none⟩) 1 1), (73, .slice (some ⟨θ.2.2.2.1, 0, none⟩) (0 + 1) θ.2.2.2.2), (74, .pointer (some ⟨w1.heap.size, 4, none⟩))]) (WtG w W3.drew kd p mac ip t lost (roomD D) to ⟨false, 0, 0, 0, none, 0, 0, []⟩ w1.heap.size n zs) (0, 0, 0, 0, 0) ?Y2 ?hY2 (by kernel_rfl) (by kernel_rfl) (fun θ => by kernel_rfl) (by kernel_rfl) ?g02 ?gops2 ?ge2
      case hY2 => intro θ; simp only [List.foldl_cons, List.foldl_nil, List.setIfInBounds_toArray, List.set_cons_zero, List.set_cons_succ]; rfl
      case g02 => exact WtG.start _
      case gops2 =>
        refine ⟨?_, ?_, ?_, ?_, ?_, ?_, ?_, ?_, trivial⟩
        · exact par_val (fun θ => by rfl) (fun θ l V hg => hg.other 0 (by decide) (by decide) (by decide) (by decide)) (fun θ l V hl hc hd hg => by go_simp; (try with_reducible rfl); (try omega))
        · exact par_val (fun θ => by rfl) (fun θ l V hg => hg.other 1 (by decide) (by decide) (by decide) (by decide)) (fun θ l V hl hc hd hg => by have h7 : l 7 = false := (by cases h : l 7 with | false => rfl | true => exact absurd (hc 7 1 (by kernel_rfl) h) (by rw [hl]; decide)); have d4 := HCL.out θ l V h7 hg; go_simp; (try with_reducible rfl); (try omega))
        · exact par_val (fun θ => by rfl) (fun θ l V hg => hg.other 2 (by decide) (by decide) (by decide) (by decide)) (fun θ l V hl hc hd hg => by go_simp; (try with_reducible rfl); (try omega))
        · exact par_call (fun θ => by rfl) rfl (vs := fun _ => [.slice a n c]) (fun θ => by rfl) Tryz.func97 (by rfl) (by rfl) (fun θ l V hl hc hd hg => by
            have h4 : l 4 = false := (by cases h : l 4 with | false => rfl | true => exact absurd (hc 4 3 (by kernel_rfl) h) (by rw [hl]; decide))
            have h5 : l 5 = false := (by cases h : l 5 with | false => rfl | true => exact absurd (hc 5 3 (by kernel_rfl) h) (by rw [hl]; decide))
            have h7 : l 7 = false := (by cases h : l 7 with | false => rfl | true => exact absurd (hc 7 3 (by kernel_rfl) h) (by rw [hl]; decide))
            obtain rfl := hg.s0 hl
            refine Calls.mono HSL.out ?_
            rintro e V2 ⟨a6, c6, rfl, ho6, hg6, hb6⟩
            obtain ⟨g6, rfl⟩ := hg6 hn0
            exact ⟨_, rfl, next_set (by kernel_rfl) (g6, c6, θ.2.2) [(71, .slice (some ⟨g6, 0, none⟩) n c6, 3)] (by simp only [List.foldl_cons, List.foldl_nil, List.setIfInBounds_toArray, List.set_cons_zero, List.set_cons_succ]) (by kernel_rfl) (fun y hy => by simp at hy; subst hy; exact hl) (fun d hd => by cases hd; rfl) (WtG.call h4 h5 h7 hb6 ho6)⟩)
        · exact par_run (fun θ => by rfl) (fun θ l V hl hc hd hg => by
            have h3 : l 3 = true := hd 3 (by kernel_rfl)
            have h5 : l 5 = false := (by cases h : l 5 with | false => rfl | true => exact absurd (hc 5 4 (by kernel_rfl) h) (by rw [hl]; decide))
            have h7 : l 7 = false := (by cases h : l 7 with | false => rfl | true => exact absurd (hc 7 4 (by kernel_rfl) h) (by rw [hl]; decide))
            refine ⟨_, _, run_bsl θ.1 θ.2.1 n V (by rfl) (by rfl), ?_⟩
            exact next_set (by kernel_rfl) (θ.1, θ.2.1, V.heap.size, θ.2.2.2) [(72, .slice (some ⟨V.heap.size, 0, none⟩) 1 1, 4)] (by simp only [List.foldl_cons, List.foldl_nil, List.setIfInBounds_toArray, List.set_cons_zero, List.set_cons_succ]) (by kernel_rfl) (fun y hy => by simp at hy; subst hy; exact hl) (fun d hd => by cases hd; rfl) (hg.alloc h3 hl h5 h7))
        · exact par_run (fun θ => by rfl) (fun θ l V hl hc hd hg => by
            have h4 : l 4 = true := hd 4 (by kernel_rfl)
            have h7 : l 7 = false := (by cases h : l 7 with | false => rfl | true => exact absurd (hc 7 5 (by kernel_rfl) h) (by rw [hl]; decide))
            obtain ⟨V6, rfl, hV6, hb6, ho6⟩ := hg.s2 h4 hl
            obtain ⟨g7, c7, V7, hr7, k7, f7, hw7⟩ := HWA.out V6 hb6 θ.1 θ.2.1 ho6
            refine ⟨_, V7, run_appX (S := 115) rfl rfl (by rfl) (by rfl) (by rw [hV6]; exact hr7), ?_⟩
            exact next_set (by kernel_rfl) (θ.1, θ.2.1, θ.2.2.1, g7, c7) [(73, .slice (some ⟨g7, 0, none⟩) (0 + 1) c7, 5)] (by simp only [List.foldl_cons, List.foldl_nil, List.setIfInBounds_toArray, List.set_cons_zero, List.set_cons_succ]) (by kernel_rfl) (fun y hy => by simp at hy; subst hy; exact hl) (fun d hd => by cases hd; rfl) (WtG.app (hcl4 := hc 4 3 (by kernel_rfl) h4) h4 h7 k7 f7 hw7))
        · exact par_val (fun θ => by rfl) (fun θ l V hg => hg.other 6 (by decide) (by decide) (by decide) (by decide)) (fun θ l V hl hc hd hg => by go_simp; (try with_reducible rfl); (try omega))
        · exact par_skip (fun θ => by rfl) (fun θ l V hl hc hd hg => by
            have h5 : l 5 = true := hd 5 (by kernel_rfl)
            obtain ⟨k7, f7, hw7⟩ := hg.s3 h5 hl
            refine ⟨V.setCell ⟨w1.heap.size, 4, none⟩ (.slice (some ⟨θ.2.2.2.1, 0, none⟩) (0 + 1) θ.2.2.2.2), by go_simp, θ, fun _ _ _ _ _ _ => rfl, fun d hd => (by cases hd), WtG.store (hcl5 := hc 5 4 (by kernel_rfl) h5) (hcl4 := hc 4 3 (by kernel_rfl) (hc 5 4 (by kernel_rfl) h5)) h5 hw7⟩)
      case ge2 =>
      rintro ⟨g6, c6, b6, g7, c7⟩ l w8 hall hg
      have HWP := (show Hid _ from hg.s4 (hall 7 (by decide)))
      clear hg hall
      obtain ⟨⟨kd8, hc8, hx8, hg8⟩, st8⟩ := HWP.out
      have HK := (show Hid _ from ask_any hc8 _ hx8 (show NbOk t (waitX ⟨false, 0, 0, 0, none, 0, 0, []⟩ g7 c7 ⟨some ⟨g6, 0, none⟩, n, c6, zs⟩) from ⟨by show 0 < _; omega, Int.le_refl _, ht0, Int.le_refl _, by show (0 : Int) ≤ 3; omega, by show 1 ≤ 4; omega, fun e => (by cases e)⟩) (by show (0 : Int) ≤ 2; omega) hto (.inr HLR.out.2))
      unfold Nbr.v waitX at HK
      dsimp only at HK st8
      have i0 := st8.cell 0 _ rfl
      have i1 := st8.cell 1 _ rfl
      have i2 := st8.cell 2 _ rfl
      have i3 := st8.cell 3 _ rfl
      have i4 := st8.cell 4 _ rfl
      have HG8 := (show Hid _ from hg8)
      clear hc8 hx8 hg8 st8
      go_wp2_with fail
      refine Calls.mono HK.out ?_
      rintro e w9 ⟨kd9, hc9, hg9, a9, c9, rfl, hr9, hk9⟩
      have HC9 := (show Hid _ from And.intro hc9 (And.intro hg9 (And.intro hr9 hk9)))
      clear hc9 hg9 hr9 hk9
      go_wp2
      go_ret2
      obtain ⟨hc9, hg9, hr9, hk9⟩ := HC9.out
      have ba : Below w9.heap.size w9 (w9.alloc (.cells #[.slice a9 (epV 281474976710655 mac 2054 (arpB 1 mac ip 0 to)).length c9] 24)) := (Below.refl _ _).alloc (Nat.le_refl _) _
      have hll := epV_le 281474976710655 mac 2054 (arpB 1 mac ip 0 to) (by rw [arpB_len]; omega)
      have hsz := HG8.out.fr.size
      exact ⟨kd9, t, lost, _, 0, _, _, _, _, .ask g7 c7 ⟨some ⟨g6, 0, none⟩, n, c6, zs⟩ HE.out HLN.out HRB.out rfl, hc9.below ba, HG8.out.trans (hg9.trans (GrowA.of_below ba)), rfl, FrsW.one (hr9.base hsz) (by omega) hk9 hc9.fresh (Nat.le_trans hsz hg9.fr.size)⟩
end Go.Proofs.YtfjpckaphfdfnaaGreatDoor
