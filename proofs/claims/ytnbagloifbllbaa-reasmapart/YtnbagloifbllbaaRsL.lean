/- What law11.live answers: true. -/
import Derived.Test.YtnbagloifbllbaaRsI
import Derived.Lib.SlBytesConst
namespace Go.Proofs.Ytnbagloifbllbaa
open Go.RowKit
def lvP1 : Pc := ⟨0, 0, 0, 0, 1, false, false, ((8 : Nat) : Int), [98]⟩
def lvP2 : Pc := ⟨0, 0, 0, 0, 1, false, true, ((0 : Nat) : Int), [97, 97, 97, 97, 97, 97, 97, 97]⟩
theorem lv_head : (headD [lvP1, lvP2]).sr = 0 ∧ (headD [lvP1, lvP2]).ds = 0 ∧ (headD [lvP1, lvP2]).pr = 0 ∧ (headD [lvP1, lvP2]).tt = 0 ∧ (headD [lvP1, lvP2]).id = 1 ∧ (headD [lvP1, lvP2]).dn = false ∧ (headD [lvP1, lvP2]).of = 0 := ⟨rfl, rfl, rfl, rfl, rfl, rfl, rfl⟩
theorem lv_sum : sumD [lvP1, lvP2] = 9 := rfl
theorem lv_body : bodyD 9 [lvP1, lvP2] = [97, 97, 97, 97, 97, 97, 97, 97, 98] := by decide +kernel
theorem lv_not : ¬ NotD [lvP1, lvP2] := by
  rintro (h | ⟨q, hq, hm, hs⟩)
  · have := h lvP1 (by simp)
    cases this
  · simp at hq
    rcases hq with rfl | rfl
    · exact hs rfl
    · cases hm
theorem lv_no1 : ¬ WholeD [lvP1] := by
  rintro ⟨q, hq, hm, hs⟩
  simp at hq
  subst hq
  exact absurd hs (by decide)
/-- What is held, counted. -/
theorem abs_counts {w : World} {kd : Nat → Role} {p : Nat} {now dr : Int} {hs : List Pa} (h : PoolW w kd p now dr hs) {A : List (Nm × List Pc)} (hA : absL hs = A) : hs.length = A.length ∧ ∀ N, (∀ e ∈ A, e.2.length ≤ N) → ∀ z ∈ hs, z.t.n ≤ N := by
  refine ⟨by rw [← hA]; simp [absL], fun N hN z hz => ?_⟩
  have h1 := (h.each z hz).row.len
  have h2 := hN (z.t.nm, z.ps.map dat) (by rw [← hA]; exact List.mem_map.2 ⟨z, hz, rfl⟩)
  simp at h1 h2
  omega
set_option maxRecDepth 100000 in
set_option maxHeartbeats 1000000 in
theorem live11_any (w : World) :
    Calls Try.prog 6 #[] w fun e w' => e = .returned (.bool true) ∧ Below w.heap.size w w' := by
  have kc := fun (w : World) (C : Array Value) (n c : Nat) => Lib.run_convert_bytes_const (P := Try.prog) w 24 5 C n c Try.underlying24 Try.underlying5
  go_enter Try.func6, Try.ntmps6
  go_wp2_with fail
  refine (rnew_any w).mono ?_
  rintro e w1 ⟨rfl, P1, b1⟩
  obtain ⟨kd1, hkd1⟩ : ∃ kd1, kd1 = (fun g => if g = w.heap.size then Role.pool else .no) := ⟨_, rfl⟩
  rw [← hkd1] at P1
  have hk1 : ∀ b, b ≠ w.heap.size → kd1 b = .no := fun b hb => by rw [hkd1]; exact if_neg hb
  clear hkd1
  obtain ⟨w2, hw2⟩ : ∃ W, W = w1.alloc (.cells #[.int .u8 98] 5 (1, 2)) := ⟨_, rfl⟩
  have b2 : Below w1.heap.size w1 w2 := by rw [hw2]; exact (Below.refl _ _).alloc (Nat.le_refl _) _
  have sl2 : Sl w2 (some ⟨w1.heap.size, 0, none⟩) 1 1 [98] := by rw [hw2]; exact sl_new w1 5 (1, 2) [98] rfl (by decide) _ rfl
  have P2 := P1.below b2
  have G2 : Grow kd1 kd1 w1 w2 := Grow.of_below b2
  have hpw := P1.lt
  have ha := add_new P2 0 0 0 0 1 false false 8 (some ⟨w1.heap.size, 0, none⟩) 1 1 [98] 1 (by omega) (by omega) (by omega) (by omega) (by omega) (by omega) (by omega) (by omega) (by decide +kernel) sl2 (fun b off hb => by injection hb with hb; injection hb with hb; exact hk1 b (by omega)) (by omega) (by omega) (.inl (by omega)) (fun q hq => by cases hq) rfl (fun q hq => by cases hq) (.inl (by show 0 < 4; omega)) (fun z hz => by cases hz) (by decide) (fun hw => absurd hw lv_no1)
  go_wp2_with fail
  rw [← hw2]
  clear hw2
  refine ha.mono ?_
  rintro e w3 ⟨kd2, hs2, P3, G3, hres⟩
  rcases hres with ⟨_, rfl, hab⟩ | ⟨hW, _⟩
  case inr => exact absurd hW lv_no1
  have hab' : absL hs2 = [((0, 0, 0, 1), [lvP1])] := hab
  clear hab ha
  obtain ⟨hcl, hcn⟩ := abs_counts P3 hab'
  have G13 := G2.trans G3
  have h3z := G3.fr.size
  have h2z := b2.size
  obtain ⟨w4, hw4⟩ : ∃ W, W = w3.alloc (.cells #[.int .u32 0, .int .u32 0, .int .u8 0, .int .u8 0, .int .u16 0, .bool false, .bool false, .int .i64 0, .slice none 0 0] 26) := ⟨_, rfl⟩
  have b4 : Below w3.heap.size w3 w4 := by rw [hw4]; exact (Below.refl _ _).alloc (Nat.le_refl _) _
  obtain ⟨w5, hw5⟩ : ∃ W, W = w4.alloc (.cells #[.int .u8 97, .int .u8 97, .int .u8 97, .int .u8 97, .int .u8 97, .int .u8 97, .int .u8 97, .int .u8 97] 5 (8, 9)) := ⟨_, rfl⟩
  have b5 : Below w4.heap.size w4 w5 := by rw [hw5]; exact (Below.refl _ _).alloc (Nat.le_refl _) _
  have sl5 : Sl w5 (some ⟨w4.heap.size, 0, none⟩) 8 8 [97, 97, 97, 97, 97, 97, 97, 97] := by rw [hw5]; exact sl_new w4 5 (8, 9) [97, 97, 97, 97, 97, 97, 97, 97] rfl (by decide) _ rfl
  have bb5 := b4.trans (b5.mono b4.size)
  have P5 := P3.below bb5
  have h4z : w4.heap.size = w3.heap.size + 1 := by rw [hw4]; simp
  have hlk : lookD (absL hs2) (0, 0, 0, 1) = [lvP1] := by rw [hab']; rfl
  have ha := add_new P5 0 0 0 0 1 false true 0 (some ⟨w4.heap.size, 0, none⟩) 8 8 [97, 97, 97, 97, 97, 97, 97, 97] 2 (by omega) (by omega) (by omega) (by omega) (by omega) (by omega) (by omega) (by omega) (by decide +kernel) sl5 (fun b off hb => by injection hb with hb; injection hb with hb; exact P3.fresh b (by omega)) (by omega) (by omega) (.inr rfl) (fun q hq => by rw [hlk] at hq; simp at hq; subst hq; exact ⟨8, rfl, by decide, by decide, by decide⟩) (by rw [hlk]; decide +kernel) (fun q hq => by rw [hlk] at hq; simp at hq; subst hq; decide +kernel) (.inl (by rw [hcl]; show 1 < 4; omega)) (hcn 1000000 (fun e he => by simp at he; subst he; show 1 ≤ 1000000; omega)) (by rw [hlk]; decide) (fun _ q hq => by
    rw [hlk] at hq ⊢
    simp at hq
    rcases hq with rfl | rfl
    · show (8 : Int) + 1 ≤ 9; omega
    · show (0 : Int) + 8 ≤ 9; omega)
  rw [hlk, show ([lvP1] ++ [(⟨0, 0, 0, 0, 1, false, true, ((0 : Nat) : Int), [97, 97, 97, 97, 97, 97, 97, 97]⟩ : Pc)]) = [lvP1, lvP2] from rfl] at ha
  have kc2 : (convert 24 24 (.slice (some ⟨w3.heap.size + 1, 0, none⟩) 8 8)).run Try.prog ((w3.alloc (.cells #[.int .u32 0, .int .u32 0, .int .u8 0, .int .u8 0, .int .u16 0, .bool false, .bool false, .int .i64 0, .slice none 0 0] 26)).alloc (.cells #[.int .u8 97, .int .u8 97, .int .u8 97, .int .u8 97, .int .u8 97, .int .u8 97, .int .u8 97, .int .u8 97] 5)) = .ok (.slice (some ⟨w3.heap.size + 1, 0, none⟩) 8 8) w5 := by
    have h1 := kc w4 #[.int .u8 97, .int .u8 97, .int .u8 97, .int .u8 97, .int .u8 97, .int .u8 97, .int .u8 97, .int .u8 97] 8 8
    rw [h4z] at h1
    rw [hw5, ← hw4]
    exact h1
  rw [hw4] at hw5
  clear hw4 kc
  have HW5 := (show Hid _ from hw5)
  have H4Z := (show Hid _ from h4z)
  rw [h4z] at ha
  clear hw5 h4z
  go_wp2_with fail
  refine ha.mono ?_
  rintro e w6 ⟨kd3, hs3, P6, G6, hres⟩
  rcases hres with ⟨hN, _⟩ | ⟨_, _, g, rfl, slg, hkg, hgw⟩
  · exact absurd hN lv_not
  obtain ⟨e1, e2, e3, e4, e5, e6, e7⟩ := lv_head
  rw [e1, e2, e3, e4, e5, e6, e7, lv_sum]
  rw [lv_sum, lv_body] at slg
  have G16 := (G13.trans (Grow.of_below (kd := kd2) bb5)).trans G6
  have HB : Hid (∀ W, Below w6.heap.size w6 W → Below w.heap.size w W) := fun W hW => by
    refine ⟨hW.os.trans (G16.fr.os.trans b1.os), hW.tape.trans (G16.fr.tape.trans b1.tape), hW.output.trans (G16.fr.output.trans b1.output), Nat.le_trans b1.size (Nat.le_trans G16.fr.size hW.size), fun k hk => ?_⟩
    have h1z := b1.size
    have h16z := G16.fr.size
    exact (hW.block k (by omega)).trans ((G16.fr.block k (by omega) (fun e => e (hk1 k (by omega)))).trans (b1.block k hk))
  obtain ⟨w7, hw7⟩ : ∃ W, W = w6.alloc (.cells #[.int .u32 0, .int .u32 0, .int .u8 0, .int .u8 0, .int .u16 1, .bool false, .bool false, .int .i64 0, .slice (some ⟨g, 0, none⟩) 9 9] 26) := ⟨_, rfl⟩
  have b7 : Below w6.heap.size w6 w7 := by rw [hw7]; exact (Below.refl _ _).alloc (Nat.le_refl _) _
  have kk := conv_str (slg.below b7)
  rw [show strOf [97, 97, 97, 97, 97, 97, 97, 97, 98] = ⟨#[97, 97, 97, 97, 97, 97, 97, 97, 98]⟩ from rfl] at kk
  rw [hw7] at kk
  have HFB := (show Hid _ from HB.out _ b7)
  rw [hw7] at HFB
  clear ha e1 e2 e3 e4 e5 e6 e7 slg G16 HB hw7 b7 P6 G6 P5 P3 G3 G13 G2 P2 P1 hk1 hab' hlk hcl hcn sl5 sl2 bb5 b5 b4 b2 b1 kc2
  go_wp2
  go_ret
  exact ⟨rfl, HFB.out⟩
end Go.Proofs.Ytnbagloifbllbaa
