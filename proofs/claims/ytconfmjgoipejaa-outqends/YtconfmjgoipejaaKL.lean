/- outq: OutqEnds: a turn's end: the acknowledgement, both Expires, the next turn's state. -/
import Derived.Test.YtconfmjgoipejaaKK
import Derived.Test.YtconfmjgoipejaaKH
import Derived.Deep.OwnRows
import Derived.Test.YtconfmjgoipejaaProg
import Derived.Test.YtconfmjgoipejaaBase
import Derived.Deep.Grids
import Derived.RowKit
import Derived.ChangeSlices
import Derived.SizedLaws
import Derived.ProofKit
import Derived.OpenShut
import Derived.ChangeKeysEq
namespace Go.Proofs.Ytconfmjgoipejaa
/-- How many of c hold in [a, a + m). -/
def cB (c : Nat → Bool) (a : Nat) : Nat → Nat
  | 0 => 0
  | m + 1 => cB c a m + (if c (a + m) = true then 1 else 0)
theorem cB_add (c : Nat → Bool) (a x : Nat) : ∀ y, cB c a (x + y) = cB c a x + cB c (a + x) y
  | 0 => by simp [cB]
  | y + 1 => by
    show cB c a (x + y) + (if c (a + (x + y)) = true then 1 else 0) = cB c a x + (cB c (a + x) y + (if c (a + x + y) = true then 1 else 0))
    rw [cB_add c a x y, ← Nat.add_assoc a x y, Nat.add_assoc]
theorem cB_mono (c : Nat → Bool) (a : Nat) {x y : Nat} (h : x ≤ y) : cB c a x ≤ cB c a y := by
  obtain ⟨d, rfl⟩ := Nat.exists_eq_add_of_le h
  rw [cB_add]
  omega
theorem cB_le (c : Nat → Bool) (a : Nat) : ∀ m, cB c a m ≤ m
  | 0 => Nat.le_refl _
  | m + 1 => by
    have := cB_le c a m
    unfold cB
    split <;> omega
/-- Newly true ones. -/
def nB (c d : Nat → Bool) : Nat → Bool := fun i => d i && !c i
theorem cB_new (c d : Nat → Bool) (a : Nat) (h : ∀ i, c i = true → d i = true) : ∀ m, cB d a m = cB c a m + cB (nB c d) a m
  | 0 => rfl
  | m + 1 => by
    unfold cB
    rw [cB_new c d a h m]
    unfold nB
    have := h (a + m)
    cases h1 : c (a + m) <;> cases h2 : d (a + m) <;> simp_all <;> omega
/-- Those of c whose rank lies in [lo, hi). -/
def rB (c : Nat → Bool) (a lo hi : Nat) : Nat → Bool := fun i => c i && (decide (lo ≤ cB c a (i - a)) && decide (cB c a (i - a) < hi))
theorem rB_cnt (c : Nat → Bool) (a lo hi : Nat) (hlh : lo ≤ hi) : ∀ m, cB (rB c a lo hi) a m = min (cB c a m) hi - min (cB c a m) lo
  | 0 => by simp [cB]
  | m + 1 => by
    unfold cB
    rw [rB_cnt c a lo hi hlh m]
    unfold rB
    rw [Nat.add_sub_cancel_left]
    cases h : c (a + m) with
    | false => simp
    | true =>
      by_cases h1 : lo ≤ cB c a m
      · by_cases h2 : cB c a m < hi
        · simp [h1, h2]; omega
        · simp [h1, h2]; omega
      · simp [h1]; omega
theorem rB_le (c : Nat → Bool) (a lo hi : Nat) (hlh : lo ≤ hi) (m : Nat) : cB (rB c a lo hi) a m ≤ hi - lo := by
  rw [rB_cnt c a lo hi hlh m]
  omega
theorem cB_imp (c d : Nat → Bool) (a : Nat) : ∀ m, (∀ i, i < m → c (a + i) = true → d (a + i) = true) → cB c a m ≤ cB d a m
  | 0, _ => Nat.le_refl _
  | m + 1, h => by
    have h1 := cB_imp c d a m (fun i hi => h i (by omega))
    unfold cB
    cases h2 : c (a + m) with
    | false => simp; omega
    | true => rw [h m (by omega) h2]; simp; omega
/-- Among the first 16 that came from a on. -/
def winB (c : Nat → Bool) (a i : Nat) : Bool := c (a + i) && decide (cB c a i < 16)
/-- How many leave that row as more come, and its beginning goes on by G. -/
theorem win_out (c d : Nat → Bool) (a G m : Nat) (h : ∀ i, c i = true → d i = true) :
    cB (fun i => winB c a (i - a) && !winB d (a + G) (i - (a + G))) (a + G) m ≤ cB (nB c d) a (G + m) := by
  obtain ⟨N, hN⟩ : ∃ N, N = cB (nB c d) a (G + m) := ⟨_, rfl⟩
  rw [← hN]
  have h1 : cB (fun i => winB c a (i - a) && !winB d (a + G) (i - (a + G))) (a + G) m ≤ cB (rB c a (16 - N) 16) (a + G) m := by
    refine cB_imp _ _ _ m (fun i hi hc => ?_)
    simp only [Bool.and_eq_true, Bool.not_eq_true'] at hc
    obtain ⟨h2, h3⟩ := hc
    unfold winB at h2 h3
    rw [show a + G + i - a = G + i by omega, show a + (G + i) = a + G + i by omega] at h2
    rw [Nat.add_sub_cancel_left] at h3
    simp only [Bool.and_eq_true, decide_eq_true_eq] at h2
    have h4 := h _ h2.1
    rw [h4, Bool.true_and, decide_eq_false_iff_not] at h3
    have h5 : cB d (a + G) i ≤ cB d a (G + i) := by rw [cB_add]; omega
    have h6 := cB_new c d a h (G + i)
    have h7 : cB (nB c d) a (G + i) ≤ N := by rw [hN]; exact cB_mono _ _ (by omega)
    unfold rB
    rw [show a + G + i - a = G + i by omega, h2.1, Bool.true_and, Bool.and_eq_true, decide_eq_true_eq, decide_eq_true_eq]
    omega
  have h2 : cB (rB c a (16 - N) 16) (a + G) m ≤ cB (rB c a (16 - N) 16) a (G + m) := by rw [cB_add]; omega
  have h3 := rB_le c a (16 - N) 16 (by omega) (G + m)
  omega
/-- A piece's weight. -/
def wtP (c : Bool) (is : Nat) : Nat := if is = 3 then 0 else if is = 2 then (if c = true then 1 else 2) else if is = 1 then (if c = true then 0 else 2) else 2
def wS (c : Nat → Bool) : Nat → List PcA → Nat
  | _, [] => 0
  | g, x :: l => wtP (c g) x.1.is + wS c (g + 1) l
theorem wS_le (c : Nat → Bool) : ∀ (l : List PcA) (g : Nat), wS c g l ≤ 2 * l.length
  | [], _ => Nat.le_refl _
  | x :: l, g => by
    have h1 := wS_le c l (g + 1)
    have h2 : wtP (c g) x.1.is ≤ 2 := by unfold wtP; (repeat' split) <;> omega
    unfold wS
    rw [List.length_cons]
    omega
theorem wS_drop (c : Nat → Bool) : ∀ (l : List PcA) (g k : Nat), wS c (g + k) (l.drop k) ≤ wS c g l
  | [], g, k => by simp [wS]
  | x :: l, g, 0 => by simp
  | x :: l, g, k + 1 => by
    rw [List.drop_succ_cons, show g + (k + 1) = (g + 1) + k by omega]
    have := wS_drop c l (g + 1) k
    show _ ≤ wtP (c g) x.1.is + wS c (g + 1) l
    omega
/-- Weights of two rows, place by place. -/
theorem wS_cmp (c c' d e u : Nat → Bool) : ∀ (l l' : List PcA) (g : Nat), l.length = l'.length → (∀ i x x', l[i]? = some x → l'[i]? = some x' → wtP (c' (g + i)) x'.1.is + (if d (g + i) = true then 1 else 0) + (if e (g + i) = true then 1 else 0) ≤ wtP (c (g + i)) x.1.is + (if u (g + i) = true then 1 else 0)) →
    wS c' g l' + cB d g l.length + cB e g l.length ≤ wS c g l + cB u g l.length
  | [], [], g, _, _ => by simp [wS, cB]
  | [], _ :: _, _, h, _ => by simp at h
  | _ :: _, [], _, h, _ => by simp at h
  | x :: l, x' :: l', g, hl, h => by
    have h0 := h 0 x x' rfl rfl
    have h1 := wS_cmp c c' d e u l l' (g + 1) (by simpa using hl) (fun i y y' hy hy' => by
      have := h (i + 1) y y' (by simpa using hy) (by simpa using hy')
      rwa [show g + (i + 1) = g + 1 + i by omega] at this)
    rw [List.length_cons, show l.length + 1 = 1 + l.length by omega, cB_add, cB_add, cB_add]
    unfold wS
    have e1 : ∀ f : Nat → Bool, cB f g 1 = if f g = true then 1 else 0 := fun f => by simp [cB]
    rw [Nat.add_zero] at h0
    rw [e1, e1, e1]
    omega
theorem cB_none (c : Nat → Bool) (a : Nat) : ∀ m, (∀ i, i < m → c (a + i) = false) → cB c a m = 0
  | 0, _ => rfl
  | m + 1, h => by
    unfold cB
    rw [cB_none c a m (fun i hi => h i (by omega)), h m (by omega)]
    rfl
end Go.Proofs.Ytconfmjgoipejaa
namespace Go.Proofs.Ytconfmjgoipejaa
/-- Between two turns: g pieces are gone, c: which came. -/
structure EnS (P : List Pc) (g : Nat) (c : Nat → Bool) (L : List PcA) : Prop where
  len : g + L.length = P.length
  at_ : ∀ (i : Nat) (x : PcA) (p : Pc), L[i]? = some x → P[g + i]? = some p → x.1.t = p.t ∧ x.1.zs = p.zs ∧ x.1.wy < 2 ∧ x.1.is ≤ 3 ∧ x.1.ms ≤ 3 ∧ (x.1.is = 1 → x.1.ms ≤ 2)
  gn : ∀ k, k < g → c k = true
  nx : c g = false
  fs : ∀ (i j : Nat) (x y : PcA), i ≤ j → L[i]? = some x → L[j]? = some y → x.1.is = 0 → y.1.is = 0
  cf : ∀ (i : Nat) (x : PcA), L[i]? = some x → x.1.is = 0 → c (g + i) = false
  tk : ∀ (i : Nat) (x : PcA), L[i]? = some x → (x.1.is = 3 ↔ winB c g i = true)
/-- Is piece i sent? -/
def snB (L : List PcA) (K i : Nat) : Bool := match L[i]? with | some x => dueB x && decide (i < K) | none => false
section
variable {P : List Pc} {g : Nat} {c : Nat → Bool} {L : List PcA}
theorem EnS.pc (h : EnS P g c L) {i : Nat} {x : PcA} (hx : L[i]? = some x) : ∃ p, P[g + i]? = some p := by
  have h1 := (List.getElem?_eq_some_iff.1 hx).1
  have h2 := h.len
  exact ⟨_, List.getElem?_eq_getElem (by omega)⟩
theorem snB_at (K : Nat) {i : Nat} {x : PcA} (hx : L[i]? = some x) : snB L K i = (dueB x && decide (i < K)) := by
  unfold snB
  rw [hx]
theorem snd_get (wy K : Nat) {i : Nat} {x : PcA} (hx : L[i]? = some x) : (mapTo (sndF wy) L K)[i]? = some (if snB L K i = true then ({ x.1 with is := 1, wy := wy, ms := 0 }, x.2) else x) := by
  have hi := (List.getElem?_eq_some_iff.1 hx).1
  have hs := snB_at K hx
  unfold mapTo
  by_cases h : i < K
  · rw [decide_eq_true h, Bool.and_true] at hs
    rw [hs, List.getElem?_append_left (by simp; omega), List.getElem?_map, List.getElem?_take_of_lt h, hx, Option.map_some]
    rfl
  · rw [decide_eq_false h, Bool.and_false] at hs
    rw [hs, if_neg (by decide), List.getElem?_append_right (by simp; omega), List.getElem?_drop, List.length_map, List.length_take]
    rw [show K + (i - min K L.length) = i by omega]
    exact hx
/-- Between Send and Sack: more came, of those that were sent. -/
structure EnM (g : Nat) (c c1 : Nat → Bool) (L : List PcA) (K : Nat) : Prop where
  up : ∀ k, c k = true → c1 k = true
  nw : ∀ k, c1 k = true → c k = false → g ≤ k ∧ snB L K (k - g) = true
/-- What an acknowledgement makes of piece i (counted behind what is gone by it). -/
theorem sk_get (bs : List (Nat × Nat)) (G : Nat) (M : List PcA) {i : Nat} {x : PcA} (hx : M[G + i]? = some x) : (skM bs G M)[i]? = some (if i < skF bs G M then misP (tkP bs i x) else tkP bs i x) := by
  have h1 : (M.drop G)[i]? = some x := by rw [List.getElem?_drop]; exact hx
  have h2 := (List.getElem?_eq_some_iff.1 h1).1
  unfold skM
  rw [mapI_at]
  unfold skL
  rw [mapI_at, h1]
  simp only [Option.map_some, if_pos h2]
theorem sk_len (bs : List (Nat × Nat)) (G : Nat) (M : List PcA) : (skM bs G M).length = M.length - G := by
  unfold skM skL
  rw [mapI_len, mapI_len, List.length_drop]
/-- Whom miss meets lies ahead of one that is in the blocks. -/
theorem far_win (bs : List (Nat × Nat)) (L : List PcA) : ∀ k, 0 < farI bs L k → inB bs (((farI bs L k - 1 : Nat) : Int) + 1) = true
  | 0, h => by simp [farI] at h
  | k + 1, h => by
    unfold farI at h ⊢
    cases hx : L[k]? with
    | none => rw [hx] at h; exact far_win bs L k h
    | some x =>
      rw [hx] at h
      dsimp only at h ⊢
      by_cases h1 : inB bs ((k : Int) + 1) = true ∧ ¬ x.1.is = 3
      · rw [if_pos h1, Nat.add_sub_cancel]
        exact h1.1
      · rw [if_neg h1] at h ⊢
        exact far_win bs L k h
theorem win_down {c : Nat → Bool} {a i j : Nat} (h : winB c a j = true) (hij : i ≤ j) (hc : c (a + i) = true) : winB c a i = true := by
  unfold winB at h ⊢
  simp only [Bool.and_eq_true, decide_eq_true_eq] at h ⊢
  have := cB_mono c a hij
  exact ⟨hc, by omega⟩
end
end Go.Proofs.Ytconfmjgoipejaa
namespace Go.Proofs.Ytconfmjgoipejaa
section
variable {P : List Pc} {g : Nat} {c c1 : Nat → Bool} {L : List PcA} {K wy G : Nat} {bs : List (Nat × Nat)}
/-- A turn's Send and acknowledgement. -/
structure EnA (P : List Pc) (g : Nat) (c c1 : Nat → Bool) (L : List PcA) (K wy G : Nat) (bs : List (Nat × Nat)) : Prop where
  en : EnS P g c L
  em : EnM g c c1 L K
  wy2 : wy < 2
  ov : ∀ k, P.length ≤ k → c1 k = false
  cm : ∀ k, k < g + G → c1 k = true
  nx : c1 (g + G) = false
  bb : ∀ i, g + G + i < P.length → inB bs ((i : Int) + 1) = winB c1 (g + G) i
theorem EnA.le (h : EnA P g c c1 L K wy G bs) : g + G ≤ P.length := by
  rcases Nat.lt_or_ge P.length (g + G) with e | e
  · have h1 := h.cm P.length e
    rw [h.ov P.length (Nat.le_refl _)] at h1
    cases h1
  · exact e
/-- A piece as it stands behind Send. -/
theorem EnA.mid (h : EnA P g c c1 L K wy G bs) {i : Nat} {x : PcA} (hx : L[i]? = some x) : ∃ y, (mapTo (sndF wy) L K)[i]? = some y ∧ y.1.t = x.1.t ∧ y.1.zs = x.1.zs ∧ y.1.wy < 2 ∧ y.1.is ≤ 3 ∧ y.1.ms ≤ 3 ∧ (y.1.is = 1 → y.1.ms ≤ 2) ∧ (y.1.is = 0 → c1 (g + i) = false ∧ x.1.is = 0) ∧ (y.1.is = 3 ↔ winB c g i = true) ∧ (y.1.is = 3 → x.1.is = 3) ∧ (snB L K i = true → y.1.is = 1) ∧ (snB L K i = false → y = x) := by
  obtain ⟨p, hp⟩ := h.en.pc hx
  obtain ⟨h1, h2, h3, h4, h5, h6⟩ := h.en.at_ i x p hx hp
  have htk := h.en.tk i x hx
  have hcf := h.en.cf i x hx
  have hs := snB_at K hx
  refine ⟨_, snd_get wy K hx, ?_⟩
  cases hsn : snB L K i with
  | true =>
    rw [if_pos rfl]
    have hd : dueB x = true := by
      rw [hsn] at hs
      have := hs.symm
      simp only [Bool.and_eq_true] at this
      exact this.1
    have hn3 : ¬ x.1.is = 3 := fun e => by
      unfold dueB at hd
      rw [e] at hd
      simp at hd
    refine ⟨rfl, rfl, h.wy2, by show 1 ≤ 3; omega, by show 0 ≤ 3; omega, fun _ => by show 0 ≤ 2; omega, fun e => ?_, ⟨fun e => ?_, fun e => absurd (htk.2 e) hn3⟩, fun e => ?_, fun _ => rfl, fun e => (by cases e)⟩
    · exact absurd (show (1 : Nat) = 0 from e) (by decide)
    · exact absurd (show (1 : Nat) = 3 from e) (by decide)
    · exact absurd (show (1 : Nat) = 3 from e) (by decide)
  | false =>
    rw [if_neg (by decide)]
    refine ⟨rfl, rfl, h3, h4, h5, h6, fun e => ⟨?_, e⟩, htk, id, fun e => (by cases e), fun _ => rfl⟩
    cases hc : c1 (g + i) with
    | false => rfl
    | true =>
      have := h.em.nw _ hc (hcf e)
      rw [Nat.add_sub_cancel_left, hsn] at this
      exact absurd this.2 (by decide)
theorem is_cases {n : Nat} (h : n ≤ 3) : n = 0 ∨ n = 1 ∨ n = 2 ∨ n = 3 := by omega
/-- A piece as it stands behind the acknowledgement. -/
theorem EnA.fin (h : EnA P g c c1 L K wy G bs) {i : Nat} {x : PcA} (hx : L[G + i]? = some x) : ∃ z y, (skM bs G (mapTo (sndF wy) L K))[i]? = some z ∧ (mapTo (sndF wy) L K)[G + i]? = some y ∧
    (z.1.t = x.1.t ∧ z.1.zs = x.1.zs ∧ z.1.wy < 2 ∧ z.1.is ≤ 3 ∧ z.1.ms ≤ 3 ∧ (z.1.is = 1 → z.1.ms ≤ 2)) ∧ (z.1.is = 0 → c1 (g + G + i) = false ∧ x.1.is = 0) ∧ (x.1.is = 0 → snB L K (G + i) = false → z.1.is = 0) ∧ (z.1.is = 3 ↔ winB c1 (g + G) i = true) ∧
    wtP (c1 (g + G + i)) z.1.is ≤ wtP (c1 (g + G + i)) y.1.is + (if winB c g (G + i) && !winB c1 (g + G) i then 1 else 0) ∧ (z.1.is = 1 → y.1.is = 1) := by
  obtain ⟨y, hy, y1, y2, y3, y4, y5, y6, y7, y8, _, y10, y11⟩ := h.mid hx
  have hlen := h.en.len
  have hi := (List.getElem?_eq_some_iff.1 hx).1
  have hb := h.bb i (by omega)
  have hz := sk_get bs G _ hy
  rw [show g + (G + i) = g + G + i by omega] at y7
  -- whom miss meets
  have hmiss : i < skF bs G (mapTo (sndF wy) L K) → c1 (g + G + i) = true → winB c1 (g + G) i = true := fun hf hc => by
    have hf2 : i < farI bs ((mapTo (sndF wy) L K).drop G) ((mapTo (sndF wy) L K).drop G).length - 1 := by
      unfold skF at hf
      omega
    have hfl := farI_le bs ((mapTo (sndF wy) L K).drop G) ((mapTo (sndF wy) L K).drop G).length
    have hw := far_win bs ((mapTo (sndF wy) L K).drop G) ((mapTo (sndF wy) L K).drop G).length (by omega)
    have hml : ((mapTo (sndF wy) L K).drop G).length = L.length - G := by
      unfold mapTo
      rw [List.length_drop, List.length_append, List.length_map, List.length_take, List.length_drop]
      omega
    generalize farI bs ((mapTo (sndF wy) L K).drop G) ((mapTo (sndF wy) L K).drop G).length = fr at hf2 hfl hw
    rw [hml] at hfl
    rw [h.bb (fr - 1) (by omega)] at hw
    exact win_down hw (by omega) hc
  refine ⟨_, y, hz, hy, ?_⟩
  obtain ⟨⟨t, f, st, ss, pp, zs, is, wz, ms⟩, pl⟩ := y
  dsimp only at y1 y2 y3 y4 y5 y6 y7 y8 y10
  unfold tkP
  dsimp only
  rw [hb]
  have hw1 : winB c1 (g + G) i = true → c1 (g + G + i) = true := fun e => by
    unfold winB at e
    simp only [Bool.and_eq_true] at e
    exact e.1
  have hx0 : x.1.is = 0 → snB L K (G + i) = false → is = 0 := fun e e2 => by
    have := y11 e2
    rw [← this] at e
    exact e
  cases hwin : winB c1 (g + G) i with
  | true =>
    have hc := hw1 hwin
    have hn0 : ¬ is = 0 := fun e => by
      rw [(y7 e).1] at hc
      cases hc
    simp only [if_true, Bool.not_true, Bool.and_false]
    have hgo : ∀ z : PcA, z = (if is = 3 then ((⟨t, f, st, ss, pp, zs, is, wz, ms⟩ : Pc), pl) else ((⟨t, f, st, ss, pp, zs, 3, wz, ms⟩ : Pc), pl)) → z = ((⟨t, f, st, ss, pp, zs, 3, wz, ms⟩ : Pc), pl) := fun z hz => by
      rw [hz]
      split
      · rename_i e; rw [e]
      · rfl
    rw [hgo _ rfl]
    have hmp : misP ((⟨t, f, st, ss, pp, zs, 3, wz, ms⟩ : Pc), pl) = ((⟨t, f, st, ss, pp, zs, 3, wz, ms⟩ : Pc), pl) := rfl
    rw [hmp, ite_self]
    refine ⟨⟨y1, y2, y3, Nat.le_refl _, y5, fun e => ?_⟩, fun e => ?_, fun e e2 => absurd (hx0 e e2) hn0, ⟨fun _ => trivial, fun _ => rfl⟩, ?_, fun e => ?_⟩
    · exact absurd (show (3 : Nat) = 1 from e) (by decide)
    · exact absurd (show (3 : Nat) = 0 from e) (by decide)
    · show wtP _ 3 ≤ _
      simp [wtP]
    · exact absurd (show (3 : Nat) = 1 from e) (by decide)
  | false =>
    simp only [Bool.false_eq_true, if_false, Bool.not_false, Bool.and_true]
    by_cases h3 : is = 3
    · rw [if_pos h3]
      have hmp : misP ((⟨t, f, st, ss, pp, zs, 2, wz, ms⟩ : Pc), pl) = ((⟨t, f, st, ss, pp, zs, 2, wz, ms⟩ : Pc), pl) := rfl
      rw [hmp, ite_self]
      have hold := y8.1 h3
      have hcc : c1 (g + G + i) = true := by
        have : c (g + (G + i)) = true := by
          unfold winB at hold
          simp only [Bool.and_eq_true] at hold
          exact hold.1
        rw [show g + (G + i) = g + G + i by omega] at this
        exact h.em.up _ this
      refine ⟨⟨y1, y2, y3, by show 2 ≤ 3; omega, y5, fun e => ?_⟩, fun e => ?_, fun e e2 => ?_, ⟨fun e => ?_, fun e => (by cases e)⟩, ?_, fun e => ?_⟩
      · exact absurd (show (2 : Nat) = 1 from e) (by decide)
      · exact absurd (show (2 : Nat) = 0 from e) (by decide)
      · have := hx0 e e2; omega
      · exact absurd (show (2 : Nat) = 3 from e) (by decide)
      · show wtP _ 2 ≤ wtP _ is + _
        rw [hold, hcc]
        simp [wtP]
      · exact absurd (show (2 : Nat) = 1 from e) (by decide)
    · rw [if_neg h3]
      by_cases hm : i < skF bs G (mapTo (sndF wy) L K)
      · rw [if_pos hm]
        have hnc : c1 (g + G + i) = false := by
          cases hc : c1 (g + G + i) with
          | false => rfl
          | true =>
            have := hmiss hm hc
            rw [hwin] at this
            cases this
        unfold misP
        dsimp only
        by_cases h1 : is = 1
        · rw [if_pos h1]
          subst h1
          have hms := y6 rfl
          by_cases h2 : ms + 1 = 3
          · rw [if_pos h2]
            refine ⟨⟨y1, y2, y3, by show 2 ≤ 3; omega, by show ms + 1 ≤ 3; omega, fun e => ?_⟩, fun e => ?_, fun e e2 => ?_, ⟨fun e => ?_, fun e => (by cases e)⟩, ?_, fun _ => rfl⟩
            · exact absurd (show (2 : Nat) = 1 from e) (by decide)
            · exact absurd (show (2 : Nat) = 0 from e) (by decide)
            · have := hx0 e e2; omega
            · exact absurd (show (2 : Nat) = 3 from e) (by decide)
            · show wtP _ 2 ≤ wtP _ 1 + _
              rw [hnc]
              simp [wtP]
          · rw [if_neg h2]
            refine ⟨⟨y1, y2, y3, by show 1 ≤ 3; omega, by show ms + 1 ≤ 3; omega, fun _ => by show ms + 1 ≤ 2; omega⟩, fun e => ?_, fun e e2 => ?_, ⟨fun e => ?_, fun e => (by cases e)⟩, by show wtP _ 1 ≤ wtP _ 1 + _; omega, fun _ => rfl⟩
            · exact absurd (show (1 : Nat) = 0 from e) (by decide)
            · have := hx0 e e2; omega
            · exact absurd (show (1 : Nat) = 3 from e) (by decide)
        · rw [if_neg h1]
          exact ⟨⟨y1, y2, y3, y4, y5, y6⟩, y7, hx0, ⟨fun e => absurd e h3, fun e => (by cases e)⟩, Nat.le_add_right _ _, id⟩
      · rw [if_neg hm]
        exact ⟨⟨y1, y2, y3, y4, y5, y6⟩, y7, hx0, ⟨fun e => absurd e h3, fun e => (by cases e)⟩, Nat.le_add_right _ _, id⟩
end
end Go.Proofs.Ytconfmjgoipejaa
namespace Go.Proofs.Ytconfmjgoipejaa
section
variable {P : List Pc} {g : Nat} {c c1 : Nat → Bool} {L : List PcA} {K wy G : Nat} {bs : List (Nat × Nat)}
theorem mapTo_lenA (f : PcA → PcA) (L : List PcA) (k : Nat) : (mapTo f L k).length = L.length := by
  unfold mapTo
  rw [List.length_append, List.length_map, List.length_take, List.length_drop]
  omega
theorem EnA.next (h : EnA P g c c1 L K wy G bs) : EnS P (g + G) c1 (skM bs G (mapTo (sndF wy) L K)) := by
  have hlen := h.en.len
  have hle := h.le
  have hsl : (skM bs G (mapTo (sndF wy) L K)).length = L.length - G := by rw [sk_len, mapTo_lenA]
  have hx : ∀ {i : Nat} {z : PcA}, (skM bs G (mapTo (sndF wy) L K))[i]? = some z → ∃ x, L[G + i]? = some x := fun {i z} hz => by
    have := (List.getElem?_eq_some_iff.1 hz).1
    exact ⟨_, List.getElem?_eq_getElem (by omega)⟩
  refine ⟨by omega, fun i z p hz hp => ?_, h.cm, h.nx, fun i j z z' hij hz hz' e => ?_, fun i z hz e => ?_, fun i z hz => ?_⟩
  · obtain ⟨x, hxi⟩ := hx hz
    obtain ⟨z2, y, hz2, _, h1, _⟩ := h.fin hxi
    rw [hz] at hz2
    obtain rfl := Option.some.inj hz2
    obtain ⟨a1, a2, _⟩ := h.en.at_ (G + i) x p hxi (by rw [show g + (G + i) = g + G + i by omega]; exact hp)
    exact ⟨h1.1.trans a1, h1.2.1.trans a2, h1.2.2⟩
  · obtain ⟨x, hxi⟩ := hx hz
    obtain ⟨x', hxj⟩ := hx hz'
    obtain ⟨z2, y, hz2, hy, _, h2, _⟩ := h.fin hxi
    rw [hz] at hz2
    obtain rfl := Option.some.inj hz2
    obtain ⟨z3, y', hz3, _, _, _, h3, _⟩ := h.fin hxj
    rw [hz'] at hz3
    obtain rfl := Option.some.inj hz3
    have hx0 := (h2 e).2
    have hx0' := h.en.fs (G + i) (G + j) x x' (by omega) hxi hxj hx0
    refine h3 hx0' ?_
    -- piece i is fresh and due, and was not sent
    have hni : snB L K (G + i) = false := by
      cases hs : snB L K (G + i) with
      | false => rfl
      | true =>
        have hg := snd_get wy K hxi
        rw [hs, if_pos rfl, hy] at hg
        have hy1 : y.1.is = 1 := by rw [Option.some.inj hg]
        have hzg := sk_get bs G _ hy
        rw [hz] at hzg
        have hz1 := Option.some.inj hzg
        exfalso
        have : z.1.is ≠ 0 := by
          rw [hz1]
          unfold tkP misP
          (repeat' split) <;> (try simp_all) <;> (try omega)
        exact this e
    rw [snB_at K hxi] at hni
    rw [snB_at K hxj]
    have hd : dueB x = true := by unfold dueB; rw [hx0]; rfl
    rw [hd, Bool.true_and, decide_eq_false_iff_not] at hni
    rw [decide_eq_false (by omega), Bool.and_false]
  · obtain ⟨x, hxi⟩ := hx hz
    obtain ⟨z2, y, hz2, _, _, h2, _⟩ := h.fin hxi
    rw [hz] at hz2
    obtain rfl := Option.some.inj hz2
    exact (h2 e).1
  · obtain ⟨x, hxi⟩ := hx hz
    obtain ⟨z2, y, hz2, _, _, _, _, h4, _⟩ := h.fin hxi
    rw [hz] at hz2
    obtain rfl := Option.some.inj hz2
    exact h4
theorem EnA.weight (h : EnA P g c c1 L K wy G bs) : wS c1 (g + G) (skM bs G (mapTo (sndF wy) L K)) ≤ wS c1 g (mapTo (sndF wy) L K) + cB (nB c c1) g L.length := by
  have hlen := h.en.len
  have hle := h.le
  have hml := mapTo_lenA (sndF wy) L K
  have h1 := wS_cmp c1 c1 (fun _ => false) (fun _ => false) (fun k => winB c g (k - g) && !winB c1 (g + G) (k - (g + G))) ((mapTo (sndF wy) L K).drop G) (skM bs G (mapTo (sndF wy) L K)) (g + G) (by rw [sk_len, List.length_drop]) (fun i y z hy hz => by
    rw [List.getElem?_drop] at hy
    have hi := (List.getElem?_eq_some_iff.1 hy).1
    obtain ⟨x, hx⟩ : ∃ x, L[G + i]? = some x := ⟨_, List.getElem?_eq_getElem (by omega)⟩
    obtain ⟨z2, y2, hz2, hy2, _, _, _, _, hw, _⟩ := h.fin hx
    rw [hz] at hz2
    rw [hy] at hy2
    obtain rfl := Option.some.inj hz2
    obtain rfl := Option.some.inj hy2
    rw [show g + G + i - g = G + i by omega, Nat.add_sub_cancel_left]
    simpa using hw)
  have h2 := wS_drop c1 (mapTo (sndF wy) L K) g G
  have h3 := win_out c c1 g G ((mapTo (sndF wy) L K).drop G).length h.em.up
  rw [List.length_drop, hml, show G + (L.length - G) = L.length by omega] at h3
  rw [List.length_drop, hml] at h1
  omega
/-- Where all that is sent comes. -/
theorem EnA.sent (h : EnA P g c c1 L K wy G bs) (hall : ∀ i, snB L K i = true → c1 (g + i) = true) : wS c1 g (mapTo (sndF wy) L K) + cB (nB c c1) g L.length + cB (fun k => snB L K (k - g)) g L.length ≤ wS c g L := by
  have h1 := wS_cmp c c1 (nB c c1) (fun k => snB L K (k - g)) (fun _ => false) L (mapTo (sndF wy) L K) g (mapTo_lenA _ _ _).symm (fun i x y hx hy => by
    have hg := snd_get wy K hx
    rw [hy] at hg
    obtain rfl := Option.some.inj hg
    rw [Nat.add_sub_cancel_left]
    have hcf := h.en.cf i x hx
    cases hs : snB L K i with
    | true =>
      have hd : dueB x = true := by
        rw [snB_at K hx] at hs
        simp only [Bool.and_eq_true] at hs
        exact hs.1
      have hc1 := hall i hs
      simp only [if_true]
      unfold dueB at hd
      unfold nB
      rw [hc1]
      simp only [Bool.or_eq_true, beq_iff_eq] at hd
      rcases hd with hd | hd
      · rw [hd]
        unfold wtP
        cases c (g + i) <;> simp
      · rw [hd, hcf hd]
        simp [wtP]
    | false =>
      have hn : nB c c1 (g + i) = false := by
        unfold nB
        cases h1 : c1 (g + i) with
        | false => rfl
        | true =>
          cases h2 : c (g + i) with
          | true => rfl
          | false =>
            have := h.em.nw _ h1 h2
            rw [Nat.add_sub_cancel_left, hs] at this
            exact absurd this.2 (by decide)
      have he : c1 (g + i) = c (g + i) := by
        unfold nB at hn
        cases h1 : c1 (g + i) with
        | true =>
          rw [h1] at hn
          cases h2 : c (g + i) with
          | true => rfl
          | false => rw [h2] at hn; cases hn
        | false =>
          cases h2 : c (g + i) with
          | false => rfl
          | true => rw [h.em.up _ h2] at h1; cases h1
      rw [hn, he]
      simp)
  have h2 : cB (fun _ => false) g L.length = 0 := cB_none _ _ _ (fun _ _ => rfl)
  omega
/-- How many are sent. -/
theorem sent_cnt (K : Nat) : ∀ (L : List PcA) (g : Nat), cB (fun k => snB L K (k - g)) g L.length = ((L.take K).filter dueB).length := by
  have hk : ∀ (L : List PcA) (g m : Nat), m ≤ L.length → cB (fun k => snB L K (k - g)) g m = (((L.take m).take K).filter dueB).length := by
    intro L g m
    induction m with
    | zero => intro _; simp [cB]
    | succ m ih =>
      intro hm
      obtain ⟨x, hx⟩ : ∃ x, L[m]? = some x := ⟨_, List.getElem?_eq_getElem (by omega)⟩
      show cB _ g m + (if snB L K (g + m - g) = true then 1 else 0) = _
      rw [ih (by omega), Nat.add_sub_cancel_left, snB_at K hx]
      by_cases hK : m < K
      · rw [List.take_take, List.take_take, Nat.min_eq_right (by omega), Nat.min_eq_right (by omega), List.take_add_one, hx, Option.toList_some, List.filter_append, List.length_append, decide_eq_true hK, Bool.and_true]
        cases hd : dueB x <;> simp [hd]
      · rw [List.take_take, List.take_take, Nat.min_eq_left (by omega), Nat.min_eq_left (by omega), decide_eq_false hK, Bool.and_false]
        simp
  intro L g
  have := hk L g L.length (Nat.le_refl _)
  rwa [List.take_length] at this
end
end Go.Proofs.Ytconfmjgoipejaa
namespace Go.Proofs.Ytconfmjgoipejaa
section
variable {P : List Pc} {g : Nat} {c c1 : Nat → Bool} {L : List PcA} {K wy G : Nat} {bs : List (Nat × Nat)}
theorem spN_small {n : Nat} (h : n ≤ 9) : spN n ≤ 28 := by
  unfold spN sizN padN
  split <;> omega
theorem sum_none {f : PcA → Nat} (L : List PcA) : ∀ k, (∀ i x, i < k → L[i]? = some x → f x = 0) → sumG f L k = 0 := by
  intro k
  induction k with
  | zero => intro _; rfl
  | succ k ih =>
    intro h
    cases hx : L[k]? with
    | some x => rw [sumG_succ hx, ih (fun i x hi hx => h i x (by omega) hx), h k x (by omega) hx]
    | none =>
      have hl := List.getElem?_eq_none_iff.1 hx
      have : sumG f L (k + 1) = sumG f L k := by
        unfold sumG
        rw [List.take_of_length_le (by omega), List.take_of_length_le (by omega)]
      rw [this]
      exact ih (fun i x hi hx => h i x (by omega) hx)
/-- A turn that sends nothing: none waits to be sent again, and the first one flies. -/
theorem EnS.none_sent (h : EnS P g c L) (hz : ∀ p ∈ P, p.zs.length ≤ 9) (hK : K = sndK L 50 100 (airL L 2)) (hno : ∀ i, snB L K i = false) : (∀ (i : Nat) (x : PcA), L[i]? = some x → ¬ x.1.is = 2) ∧ (∀ x, L[0]? = some x → x.1.is = 1) := by
  -- where Send stopped
  have hst : K = L.length ∨ stopP L 50 100 (airL L 2) K := by
    rw [hK]
    unfold sndK
    cases hf : (List.range L.length).find? (stopB L 50 100 (airL L 2)) with
    | none => exact .inl rfl
    | some j =>
      rw [List.find?_range_eq_some] at hf
      exact .inr ((stop_iff _ _ _ _ _).2 hf.1)
  have hnd : ∀ i x, i < K → L[i]? = some x → dueB x = false := fun i x hi hx => by
    have := hno i
    rw [snB_at K hx, decide_eq_true hi, Bool.and_true] at this
    exact this
  have hfr : ∀ x, L[K]? = some x → dueB x = true → x.1.is = 0 ∧ 0 < airL L 2 := fun x hx hd => by
    rcases hst with e | ⟨y, hy, _, h3⟩
    · rw [e, List.getElem?_eq_none (Nat.le_refl _)] at hx
      cases hx
    · rw [hx] at hy
      obtain rfl := Option.some.inj hy
      obtain ⟨p, hp⟩ := h.pc hx
      have hl : x.1.zs.length ≤ 9 := by rw [(h.at_ K x p hx hp).2.1]; exact hz p (List.mem_of_getElem? hp)
      have e1 : sumG szP L (K + 1) = szP x := by
        rw [sumG_succ hx, sum_none L K (fun i x hi hx => by unfold szP; rw [hnd i x hi hx]; rfl), Nat.zero_add]
      have e2 : sumG ctP L K = 0 := sum_none L K (fun i x hi hx => by unfold ctP; rw [hnd i x hi hx]; rfl)
      have e3 : sumG lnP L K = 0 := sum_none L K (fun i x hi hx => by unfold lnP; rw [hnd i x hi hx]; rfl)
      have e5 := spN_small hl
      have e4 : szP x ≤ 28 := by
        unfold szP
        split <;> omega
      rw [e1, e2, e3] at h3
      omega
  have hKd : ∀ x, L[K]? = some x → dueB x = true := fun x hx => by
    rcases hst with e | ⟨y, hy, hd, _⟩
    · rw [e, List.getElem?_eq_none (Nat.le_refl _)] at hx
      cases hx
    · rw [hx] at hy
      obtain rfl := Option.some.inj hy
      exact hd
  have hKl : K ≤ L.length := by
    rcases hst with e | ⟨y, hy, _⟩
    · omega
    · exact Nat.le_of_lt (List.getElem?_eq_some_iff.1 hy).1
  have hin : ∀ i x, L[i]? = some x → ¬ i < K → ∃ y, L[K]? = some y := fun i x hx hi => by
    have := (List.getElem?_eq_some_iff.1 hx).1
    exact ⟨_, List.getElem?_eq_getElem (by omega)⟩
  constructor
  · intro i x hx e
    have hd : dueB x = true := by unfold dueB; rw [e]; rfl
    by_cases hi : i < K
    · rw [hnd i x hi hx] at hd; cases hd
    · obtain ⟨y, hy⟩ := hin i x hx hi
      have h1 := (hfr y hy (hKd y hy)).1
      have h2 := h.fs K i y x (by omega) hy hx h1
      omega
  · intro x hx
    obtain ⟨p, hp⟩ := h.pc hx
    have h4 := (h.at_ 0 x p hx hp).2.2.2.1
    have hnx := h.nx
    rcases is_cases h4 with e | e | e | e
    · -- fresh: all are, and nothing flies
      exfalso
      have hd : dueB x = true := by unfold dueB; rw [e]; rfl
      have hK0 : K = 0 := by
        rcases Nat.eq_zero_or_pos K with h0 | h0
        · exact h0
        · rw [hnd 0 x h0 hx] at hd; cases hd
      have hair := (hfr x (by rw [hK0]; exact hx) hd).2
      have hall : ∀ (i : Nat) (y : PcA), L[i]? = some y → y.1.is = 0 := fun i y hy => h.fs 0 i x y (Nat.zero_le _) hx hy e
      have e0 : sumG (flyP 0) L L.length = 0 := sum_none L _ (fun i y _ hy => by unfold flyP; rw [if_neg]; rw [hall i y hy]; rintro ⟨h1, _⟩; cases h1)
      have e1 : sumG (flyP 1) L L.length = 0 := sum_none L _ (fun i y _ hy => by unfold flyP; rw [if_neg]; rw [hall i y hy]; rintro ⟨h1, _⟩; cases h1)
      simp only [airL] at hair
      simp [e0, e1] at hair
    · exact e
    · exfalso
      have hd : dueB x = true := by unfold dueB; rw [e]; rfl
      have hK0 : K = 0 := by
        rcases Nat.eq_zero_or_pos K with h0 | h0
        · exact h0
        · rw [hnd 0 x h0 hx] at hd; cases hd
      have := (hfr x (by rw [hK0]; exact hx) hd).1
      omega
    · exfalso
      have := (h.tk 0 x hx).1 e
      unfold winB at this
      simp only [Bool.and_eq_true, Nat.add_zero] at this
      rw [hnx] at this
      cases this.1
/-- Both ways are late. -/
def exA (L : List PcA) : List PcA := (L.map (expP 0)).map (expP 1)
theorem exA_get {i : Nat} {x : PcA} (hx : L[i]? = some x) (hw : x.1.wy < 2) : (exA L)[i]? = some (if x.1.is = 1 then ({ x.1 with is := 2 }, x.2) else x) := by
  unfold exA
  rw [List.getElem?_map, List.getElem?_map, hx]
  simp only [Option.map_some, Option.some.injEq]
  by_cases h1 : x.1.is = 1
  · rw [if_pos h1]
    rcases (show x.1.wy = 0 ∨ x.1.wy = 1 by omega) with h2 | h2
    · have e : expP 0 x = ({ x.1 with is := 2 }, x.2) := by unfold expP; rw [if_pos ⟨h1, by rw [h2]; rfl⟩]
      rw [e]
      unfold expP
      rw [if_neg (by rintro ⟨h3, _⟩; cases h3)]
    · have e : expP 0 x = x := by unfold expP; rw [if_neg (by rintro ⟨_, h3⟩; omega)]
      rw [e]
      unfold expP
      rw [if_pos ⟨h1, by rw [h2]; rfl⟩]
  · have e : ∀ w, expP w x = x := fun w => by unfold expP; rw [if_neg (fun h => h1 h.1)]
    rw [e, e, if_neg h1]
theorem EnS.exp (h : EnS P g c L) : EnS P g c (exA L) ∧ (∀ (i : Nat) (x : PcA), (exA L)[i]? = some x → ¬ x.1.is = 1) ∧ wS c g (exA L) ≤ wS c g L + L.length ∧ (∀ x, L[0]? = some x → x.1.is = 1 → ∃ y, (exA L)[0]? = some y ∧ y.1.is = 2) := by
  have hlen : (exA L).length = L.length := by unfold exA; rw [List.length_map, List.length_map]
  have hb : ∀ {i : Nat} {y : PcA}, (exA L)[i]? = some y → ∃ x, L[i]? = some x ∧ y = (if x.1.is = 1 then ({ x.1 with is := 2 }, x.2) else x) := fun {i y} hy => by
    have hi := (List.getElem?_eq_some_iff.1 hy).1
    obtain ⟨x, hx⟩ : ∃ x, L[i]? = some x := ⟨_, List.getElem?_eq_getElem (by omega)⟩
    obtain ⟨p, hp⟩ := h.pc hx
    have hg := exA_get hx (h.at_ i x p hx hp).2.2.1
    rw [hy] at hg
    exact ⟨x, hx, Option.some.inj hg⟩
  refine ⟨⟨by rw [hlen]; exact h.len, fun i y p hy hp => ?_, h.gn, h.nx, fun i j y y' hij hy hy' e => ?_, fun i y hy e => ?_, fun i y hy => ?_⟩, fun i y hy => ?_, ?_, fun x hx e => ?_⟩
  · obtain ⟨x, hx, rfl⟩ := hb hy
    obtain ⟨a1, a2, a3, a4, a5, a6⟩ := h.at_ i x p hx hp
    by_cases h1 : x.1.is = 1
    · rw [if_pos h1]
      exact ⟨a1, a2, a3, by show 2 ≤ 3; omega, a5, fun e => absurd (show (2 : Nat) = 1 from e) (by decide)⟩
    · rw [if_neg h1]
      exact ⟨a1, a2, a3, a4, a5, a6⟩
  · obtain ⟨x, hx, rfl⟩ := hb hy
    obtain ⟨x', hx', rfl⟩ := hb hy'
    by_cases h1 : x.1.is = 1
    · rw [if_pos h1] at e
      exact absurd (show (2 : Nat) = 0 from e) (by decide)
    · rw [if_neg h1] at e
      have := h.fs i j x x' hij hx hx' e
      rw [if_neg (by omega)]
      exact this
  · obtain ⟨x, hx, rfl⟩ := hb hy
    by_cases h1 : x.1.is = 1
    · rw [if_pos h1] at e
      exact absurd (show (2 : Nat) = 0 from e) (by decide)
    · rw [if_neg h1] at e
      exact h.cf i x hx e
  · obtain ⟨x, hx, rfl⟩ := hb hy
    rw [← h.tk i x hx]
    by_cases h1 : x.1.is = 1
    · rw [if_pos h1]
      constructor
      · intro e; exact absurd (show (2 : Nat) = 3 from e) (by decide)
      · intro e; omega
    · rw [if_neg h1]
  · obtain ⟨x, hx, rfl⟩ := hb hy
    by_cases h1 : x.1.is = 1
    · rw [if_pos h1]
      exact fun e => absurd (show (2 : Nat) = 1 from e) (by decide)
    · rw [if_neg h1]; exact h1
  · have h1 := wS_cmp c c (fun _ => false) (fun _ => false) (fun _ => true) L (exA L) g hlen.symm (fun i x y hx hy => by
      obtain ⟨x2, hx2, rfl⟩ := hb hy
      rw [hx] at hx2
      obtain rfl := Option.some.inj hx2
      by_cases h1 : x.1.is = 1
      · rw [if_pos h1, h1]
        simp only [wtP]
        cases c (g + i) <;> simp
      · rw [if_neg h1]
        simp)
    have h2 := cB_le (fun _ => true) g L.length
    omega
  · obtain ⟨p, hp⟩ := h.pc hx
    refine ⟨_, exA_get hx (h.at_ 0 x p hx hp).2.2.1, ?_⟩
    rw [if_pos e]
end
end Go.Proofs.Ytconfmjgoipejaa
namespace Go.Proofs.Ytconfmjgoipejaa
def agB (L : List PcA) : Bool := L.any (fun x => x.1.is == 2)
def l0B (c : Nat → Bool) : Nat → List PcA → Bool
  | _, [] => false
  | g, x :: l => (x.1.is == 1 && !c g) || l0B c (g + 1) l
def enM (n k : Nat) (c : Nat → Bool) (g : Nat) (L : List PcA) : Nat := if k < 300 then 2 * (300 - k) + (if agB L = true then 0 else 1) + (3 * n + 2) else wS c g L + (if l0B c g L = true then n + 1 else 0)
theorem agB_no {L : List PcA} (h : ∀ (i : Nat) (x : PcA), L[i]? = some x → ¬ x.1.is = 2) : agB L = false := by
  unfold agB
  rw [List.any_eq_false]
  intro x hx
  obtain ⟨i, hi⟩ := List.getElem?_of_mem hx
  have := h i x hi
  simpa using this
theorem agB_yes {L : List PcA} {i : Nat} {x : PcA} (hx : L[i]? = some x) (h : x.1.is = 2) : agB L = true := by
  unfold agB
  rw [List.any_eq_true]
  exact ⟨x, List.mem_of_getElem? hx, by rw [h]; rfl⟩
theorem l0B_iff (c : Nat → Bool) : ∀ (L : List PcA) (g : Nat), l0B c g L = true ↔ ∃ (i : Nat) (x : PcA), L[i]? = some x ∧ x.1.is = 1 ∧ c (g + i) = false
  | [], g => by simp [l0B]
  | x :: l, g => by
    unfold l0B
    rw [Bool.or_eq_true, l0B_iff c l (g + 1)]
    constructor
    · rintro (h | ⟨i, y, h1, h2, h3⟩)
      · simp only [Bool.and_eq_true, beq_iff_eq, Bool.not_eq_true'] at h
        exact ⟨0, x, rfl, h.1, h.2⟩
      · exact ⟨i + 1, y, by simpa using h1, h2, by rw [show g + (i + 1) = g + 1 + i by omega]; exact h3⟩
    · rintro ⟨i, y, h1, h2, h3⟩
      cases i with
      | zero =>
        have e : x = y := by simpa using h1
        subst e
        left
        simp only [Bool.and_eq_true, beq_iff_eq, Bool.not_eq_true']
        exact ⟨h2, h3⟩
      | succ i => exact .inr ⟨i, y, by simpa using h1, h2, by rw [show g + 1 + i = g + (i + 1) by omega]; exact h3⟩
theorem topL_gt : ∀ (L : List PcA) (i : Nat), i < L.length → (∀ (j : Nat) (x : PcA), j ≤ i → L[j]? = some x → ¬ x.1.is = 0) → i < topL L
  | [], i, h, _ => by simp at h
  | x :: l, i, h, hn => by
    unfold topL
    rw [if_neg (hn 0 x (Nat.zero_le _) rfl)]
    cases i with
    | zero => omega
    | succ i =>
      have := topL_gt l i (by simpa using h) (fun j y hj hy => hn (j + 1) y (by omega) (by simpa using hy))
      omega
section
variable {P : List Pc} {g : Nat} {c c1 : Nat → Bool} {L : List PcA} {K wy G : Nat} {bs : List (Nat × Nat)}
/-- What came was sent: it lies below the top. -/
theorem EnS.top (h : EnS P g c L) (em : EnM g c c1 L K) {i : Nat} (hi : i < L.length) (hc : c1 (g + i) = true) : i < topL (mapTo (sndF wy) L K) := by
  refine topL_gt _ i (by rw [mapTo_lenA]; exact hi) (fun j y hj hy e => ?_)
  obtain ⟨x, hx⟩ : ∃ x, L[j]? = some x := ⟨_, List.getElem?_eq_getElem (by omega)⟩
  obtain ⟨xi, hxi⟩ : ∃ x, L[i]? = some x := ⟨_, List.getElem?_eq_getElem hi⟩
  have hg := snd_get wy K hx
  rw [hy] at hg
  have hs : snB L K j = false := by
    cases hs : snB L K j with
    | false => rfl
    | true =>
      rw [hs, if_pos rfl] at hg
      rw [Option.some.inj hg] at e
      exact absurd (show (1 : Nat) = 0 from e) (by decide)
  rw [hs, if_neg (by decide)] at hg
  obtain rfl := Option.some.inj hg
  have hxi0 := h.fs j i y xi hj hx hxi e
  have hcf := h.cf i xi hxi hxi0
  have hsi := (em.nw _ hc hcf).2
  rw [Nat.add_sub_cancel_left, snB_at K hxi] at hsi
  simp only [Bool.and_eq_true, decide_eq_true_eq] at hsi
  rw [snB_at K hx] at hs
  have hd : dueB y = true := by unfold dueB; rw [e]; rfl
  rw [hd, Bool.true_and, decide_eq_false_iff_not] at hs
  omega
/-- The list behind a turn. -/
def turnL (L : List PcA) (K wy G : Nat) (bs : List (Nat × Nat)) (m : Nat) : List PcA := if m = 0 then exA (skM bs G (mapTo (sndF wy) L K)) else skM bs G (mapTo (sndF wy) L K)
theorem EnA.turn (h : EnA P g c c1 L K wy G bs) (m : Nat) : EnS P (g + G) c1 (turnL L K wy G bs m) := by
  unfold turnL
  split
  · exact h.next.exp.1
  · exact h.next
theorem EnA.falls (h : EnA P g c c1 L K wy G bs) (hz : ∀ p ∈ P, p.zs.length ≤ 9) (hK : K = sndK L 50 100 (airL L 2)) (hg : g < P.length) {m k : Nat} (hm : m = ((L.take K).filter dueB).length) (hall : 300 ≤ k → ∀ i, snB L K i = true → c1 (g + i) = true) :
    enM P.length (k + m) c1 (g + G) (turnL L K wy G bs m) + 1 ≤ enM P.length k c g L := by
  have hlen := h.en.len
  have hcnt := sent_cnt K L g
  rw [← hm] at hcnt
  have hen := h.turn m
  have hbnd : ∀ j, 300 ≤ j → enM P.length j c1 (g + G) (turnL L K wy G bs m) ≤ 3 * P.length + 1 := fun j hj => by
    have h1 := wS_le c1 (turnL L K wy G bs m) (g + G)
    have h2 := hen.len
    unfold enM
    rw [if_neg (by omega)]
    split <;> omega
  rcases Nat.eq_zero_or_pos m with h0 | h0
  · -- nothing is sent
    have hno : ∀ i, snB L K i = false := fun i => by
      cases hs : snB L K i with
      | false => rfl
      | true =>
        exfalso
        have hil : i < L.length := by
          unfold snB at hs
          cases hx : L[i]? with
          | none => rw [hx] at hs; cases hs
          | some x => exact (List.getElem?_eq_some_iff.1 hx).1
        have h1 := cB_mono (fun k => snB L K (k - g)) g (show i + 1 ≤ L.length by omega)
        have h2 : cB (fun k => snB L K (k - g)) g (i + 1) = cB (fun k => snB L K (k - g)) g i + (if snB L K (g + i - g) = true then 1 else 0) := rfl
        rw [Nat.add_sub_cancel_left, hs, if_pos rfl] at h2
        omega
    obtain ⟨n2, n1⟩ := h.en.none_sent hz hK hno
    have hcc : ∀ k, c1 k = c k := fun k => by
      cases h1 : c1 k with
      | true =>
        cases h2 : c k with
        | true => rfl
        | false =>
          have := (h.em.nw k h1 h2).2
          rw [hno] at this
          cases this
      | false =>
        cases h2 : c k with
        | false => rfl
        | true => rw [h.em.up k h2] at h1; cases h1
    have hG : G = 0 := by
      rcases Nat.eq_zero_or_pos G with e | e
      · exact e
      · have h1 := h.cm g (by omega)
        rw [hcc, h.en.nx] at h1
        cases h1
    obtain ⟨x, hx⟩ : ∃ x, L[0]? = some x := ⟨_, List.getElem?_eq_getElem (by omega)⟩
    have hx1 := n1 x hx
    have hag := agB_no n2
    obtain ⟨z, y, hz0, _, ⟨_, _, _, z4, _⟩, z5, _, z7, _⟩ := h.fin (i := 0) (x := x) (by rw [hG]; exact hx)
    have hzw : ¬ z.1.is = 3 := fun e => by
      have := z7.1 e
      unfold winB at this
      simp only [Bool.and_eq_true, Nat.add_zero] at this
      rw [h.nx] at this
      cases this.1
    have hz12 : z.1.is = 1 ∨ z.1.is = 2 := by
      rcases is_cases z4 with e | e | e | e
      · have := (z5 e).2; omega
      · exact .inl e
      · exact .inr e
      · exact absurd e hzw
    obtain ⟨x1, x2, x3, x4⟩ := h.next.exp
    have ht : turnL L K wy G bs m = exA (skM bs G (mapTo (sndF wy) L K)) := by unfold turnL; rw [if_pos h0]
    rw [ht, h0, show k + 0 = k from rfl]
    by_cases hk : k < 300
    · have hag2 : agB (exA (skM bs G (mapTo (sndF wy) L K))) = true := by
        rcases hz12 with e | e
        · obtain ⟨y2, hy2, e2⟩ := x4 z hz0 e
          exact agB_yes hy2 e2
        · obtain ⟨p, hp⟩ := h.next.pc hz0
          have hge := exA_get hz0 (h.next.at_ 0 z p hz0 hp).2.2.1
          rw [if_neg (by omega)] at hge
          exact agB_yes hge e
      unfold enM
      rw [if_pos hk, if_pos hk, if_pos hag2, if_neg (by rw [hag]; decide)]
      omega
    · have hl0 : l0B c g L = true := (l0B_iff c L g).2 ⟨0, x, hx, hx1, h.en.nx⟩
      have hl1 : ¬ l0B c1 (g + G) (exA (skM bs G (mapTo (sndF wy) L K))) = true := fun e => by
        obtain ⟨i, u, hu, hu1, _⟩ := (l0B_iff c1 _ _).1 e
        exact x2 i u hu hu1
      unfold enM
      rw [if_neg hk, if_neg hk, if_pos hl0, if_neg hl1]
      have hw := h.weight
      have hs := h.sent (fun i hi => by rw [hno] at hi; cases hi)
      have hll : (skM bs G (mapTo (sndF wy) L K)).length ≤ P.length := by have := h.next.len; omega
      omega
  · have ht : turnL L K wy G bs m = skM bs G (mapTo (sndF wy) L K) := by unfold turnL; rw [if_neg (by omega)]
    by_cases hk : k < 300
    · by_cases hk1 : k + m < 300
      · unfold enM
        rw [if_pos hk, if_pos hk1]
        split <;> split <;> omega
      · have h1 := hbnd (k + m) (by omega)
        have h2 : 3 * P.length + 2 ≤ enM P.length k c g L := by
          unfold enM
          rw [if_pos hk]
          omega
        omega
    · have hal := hall (by omega)
      have hw := h.weight
      have hs := h.sent hal
      rw [ht]
      have hl : l0B c1 (g + G) (skM bs G (mapTo (sndF wy) L K)) = true → l0B c g L = true := fun e => by
        obtain ⟨i, z, hz1, hz2, hz3⟩ := (l0B_iff c1 _ _).1 e
        have hil := (List.getElem?_eq_some_iff.1 hz1).1
        rw [sk_len, mapTo_lenA] at hil
        obtain ⟨x, hx⟩ : ∃ x, L[G + i]? = some x := ⟨_, List.getElem?_eq_getElem (by omega)⟩
        obtain ⟨z', y, hz', hy, _, _, _, _, _, hy1⟩ := h.fin hx
        rw [hz1] at hz'
        obtain rfl := Option.some.inj hz'
        have hsn : snB L K (G + i) = false := by
          cases hs : snB L K (G + i) with
          | false => rfl
          | true =>
            have := hal _ hs
            rw [show g + (G + i) = g + G + i by omega, hz3] at this
            cases this
        have hg := snd_get wy K hx
        rw [hsn, if_neg (by decide), hy] at hg
        have hyx := Option.some.inj hg
        refine (l0B_iff c L g).2 ⟨G + i, x, hx, by rw [← hyx]; exact hy1 hz2, ?_⟩
        cases hc : c (g + (G + i)) with
        | false => rfl
        | true =>
          have := h.em.up _ hc
          rw [show g + (G + i) = g + G + i by omega, hz3] at this
          cases this
      unfold enM
      rw [if_neg (by omega), if_neg hk]
      by_cases e : l0B c1 (g + G) (skM bs G (mapTo (sndF wy) L K)) = true
      · rw [if_pos e, if_pos (hl e)]; omega
      · rw [if_neg e]; omega
end
end Go.Proofs.Ytconfmjgoipejaa
namespace Go.Proofs.Ytconfmjgoipejaa
open Go.RowKit Go.Shelf
section
variable {W : World} {B D q : Nat} {L : List PcA} {cum size : Nat} {nx : List Nat}
structure ExpO (B D q : Nat) (L : List PcA) (cum size : Nat) (nx : List Nat) (wy : Int) (W : World) (e : Ending) (W' : World) : Prop where
  ex : ∃ m : Nat, e = .returned (.tuple #[.int .i64 (m : Nat), .int .i64 0])
  qu : OwQ B D q (L.map (expP wy)) cum size nx W'
  fr : Fr (qT B W) W W'
theorem expire_own (h : OwQ B D q L cum size nx W) (hL : L.length ≤ 100000) (wy : Int) (hw0 : 0 ≤ wy) (hw2 : wy < 2) :
    Calls Try.prog 18 #[.pointer (some ⟨q, 0, none⟩), .int .i64 wy] W (ExpO B D q L cum size nx wy W) := by
  obtain ⟨⟨nb, pa, cap, hq, hb⟩, hd⟩ := h
  refine (expire_any hq hL wy hw0 hw2).mono ?_
  rintro e W' ⟨rfl, hq2, hf⟩
  refine ⟨⟨_, rfl⟩, ⟨⟨nb, pa, cap, hq2, hb⟩, fun y hy g hg => ?_⟩, own_fr hq hb hf⟩
  obtain ⟨x, hx, rfl⟩ := List.mem_map.1 hy
  have e : (expP wy x).2 = x.2 ∧ (expP wy x).1.zs = x.1.zs := by
    unfold expP
    split <;> exact ⟨rfl, rfl⟩
  rw [e.1, e.2] at hg
  exact hd x hx g hg
theorem left_own (h : OwQ B D q L cum size nx W) (hL : L.length ≤ 100000) (hS : sumL L L.length ≤ 100000) :
    Calls Try.prog 15 #[.pointer (some ⟨q, 0, none⟩)] W fun e w' => e = .returned (.tuple #[.int .i64 (L.length : Nat), .int .i64 (sumL L L.length : Nat)]) ∧ Below W.heap.size W w' := by
  obtain ⟨⟨nb, pa, cap, hq, _⟩, _⟩ := h
  exact left_any hq hL hS
theorem flight_own (h : OwQ B D q L cum size nx W) (hL : L.length ≤ 100000) (hS : sumL L L.length ≤ 100000) (wy : Int) :
    Calls Try.prog 16 #[.pointer (some ⟨q, 0, none⟩), .int .i64 wy] W fun e w' => e = .returned (.int .i64 (sumG (flyP wy) L L.length : Nat)) ∧ Below W.heap.size W w' := by
  obtain ⟨⟨nb, pa, cap, hq, _⟩, _⟩ := h
  exact flight_any hq hL hS wy
theorem cum_own (h : OwQ B D q L cum size nx W) :
    Calls Try.prog 11 #[.pointer (some ⟨q, 0, none⟩)] W fun e w' => e = .returned (.int .u32 (cum : Nat)) ∧ Below W.heap.size W w' := by
  obtain ⟨⟨nb, pa, cap, hq, _⟩, _⟩ := h
  exact qcum_any hq
end
/-- OutqEnds between two messages. -/
structure CvV (w : World) (D q c0 : Nat) (L : List PcA) (nx : List Nat) (Ws : List Wm) (k : Nat) (W : World) : Prop where
  qu : OwQ w.heap.size D q L c0 9 nx W
  pc : L.map (·.1) = cutsW c0 9 0 Ws
  n8 : nx.length = 8
  nl : ∀ i, nx.getD i 0 < 65536
  bl : Below w.heap.size w W
  ll : L.length ≤ 12 * k
  sm : sumL L L.length ≤ 100 * k
theorem CvV.push {w W : World} {D q c0 : Nat} {L : List PcA} {nx : List Nat} {Ws : List Wm} {k : Nat} (h : CvV w D q c0 L nx Ws k W) {x : MgD} (hx : x.Wf w) (h100 : x.daN ≤ 100) {e : Ending} {W4 : World}
    (hp : PshO w.heap.size q L c0 9 (nmX x.fr nx x.st) (markL (cntN x.daN 9) ((List.range (cntN x.daN 9)).map (newPc c0 L.length (nmF x.fr) x.st (nmS x.fr nx x.st) x.pp 9 x.daZ))) W e W4) : ∃ D2 L2 nx2 Ws2, CvV w D2 q c0 L2 nx2 Ws2 (k + 1) W4 := by
  obtain ⟨-, ⟨M, hq4, hM⟩, hf⟩ := hp
  have dN : x.daN = x.daZ.length := hx.2.2.2.1.len.symm
  have hlL : L.length = (cutsW c0 9 0 Ws).length := by rw [← h.pc, List.length_map]
  refine ⟨_, L ++ M, _, Ws ++ [{ x.toW with ss := nmS x.fr nx x.st }], hq4, ?_, ?_, ?_, h.bl.trans (Fr.below hf _ h.bl.size (fun _ hk => hk.1)), ?_, ?_⟩
  · rw [List.map_append, h.pc, hM, cutsW_app, Nat.zero_add, ← hlL]
    unfold pcsW
    rw [dN]
    rfl
  · unfold nmX
    split
    · exact h.n8
    · rw [List.length_set]; exact h.n8
  · intro i
    unfold nmX
    split
    · exact h.nl i
    · rw [List.getD_eq_getElem?_getD, List.getElem?_set]
      split
      · split
        · exact Nat.mod_lt _ (by decide)
        · decide
      · have := h.nl i
        rw [List.getD_eq_getElem?_getD] at this
        exact this
  · have e1 := congrArg List.length hM
    rw [List.length_map, markL_len, List.length_map, List.length_range] at e1
    have e2 : cntN x.daN 9 ≤ 12 := by unfold cntN; omega
    have := h.ll
    rw [List.length_append, e1]
    omega
  · have e1 : M.map (fun x => x.1.zs.length) = (M.map (·.1)).map (fun p => p.zs.length) := by rw [List.map_map]; rfl
    have := h.sm
    rw [sumL_all, List.map_append, List.sum_append, ← sumL_all, e1, hM, dN, pcs_sum _ _ _ _ _ _ _ _ (by decide)]
    omega
theorem CvV.keep {w W W' : World} {D q c0 : Nat} {L : List PcA} {nx : List Nat} {Ws : List Wm} {k : Nat} (h : CvV w D q c0 L nx Ws k W) (hb : Below W.heap.size W W') : CvV w D q c0 L nx Ws (k + 1) W' :=
  ⟨h.qu.below hb, h.pc, h.n8, h.nl, h.bl.trans (hb.mono h.bl.size), by have := h.ll; omega, by have := h.sm; omega⟩
/-- At the beginning. -/
theorem EnS.start {c0 : Nat} {Ws : List Wm} {L : List PcA} (h : L.map (·.1) = cutsW c0 9 0 Ws) : EnS (cutsW c0 9 0 Ws) 0 (fun _ => false) L := by
  have hx : ∀ (i : Nat) (x : PcA), L[i]? = some x → (cutsW c0 9 0 Ws)[i]? = some x.1 := fun i x hx => by
    rw [← h, List.getElem?_map, hx]; rfl
  have h0 : ∀ (i : Nat) (x : PcA), L[i]? = some x → x.1.is = 0 ∧ x.1.ms = 0 ∧ x.1.wy = 0 := fun i x hxi => by
    obtain ⟨_, h1, h2, h3, _⟩ := cutsW_t c0 9 Ws 0 i x.1 (hx i x hxi)
    exact ⟨h1, h2, h3⟩
  refine ⟨by rw [← h, List.length_map]; omega, fun i x p hxi hp => ?_, fun k hk => (by omega), rfl, fun i j x y _ _ hy _ => (h0 j y hy).1, fun _ _ _ _ => rfl, fun i x hxi => ?_⟩
  · rw [Nat.zero_add, hx i x hxi] at hp
    obtain rfl := Option.some.inj hp
    obtain ⟨h1, h2, h3⟩ := h0 i x hxi
    rw [h1, h2, h3]
    exact ⟨rfl, rfl, by decide, by decide, by decide, fun e => (by cases e)⟩
  · rw [(h0 i x hxi).1]
    unfold winB
    simp
/-- The blocks told of what came in [a, a + m). -/
def blks (c : Nat → Bool) (a : Nat) : Nat → List (Nat × Nat)
  | 0 => []
  | m + 1 => if c (a + m) = true then blks c a m ++ [(m + 1, m + 1)] else blks c a m
theorem blks_len (c : Nat → Bool) (a : Nat) : ∀ m, (blks c a m).length = cB c a m
  | 0 => rfl
  | m + 1 => by
    unfold blks cB
    split
    · rw [List.length_append, blks_len c a m]; rfl
    · rw [blks_len c a m]; omega
theorem blks_mem (c : Nat → Bool) (a : Nat) : ∀ m (p : Nat × Nat), p ∈ blks c a m ↔ ∃ j, j < m ∧ c (a + j) = true ∧ p = (j + 1, j + 1)
  | 0, p => by simp [blks]
  | m + 1, p => by
    unfold blks
    split
    · rename_i h
      rw [List.mem_append, blks_mem c a m p, List.mem_singleton]
      constructor
      · rintro (⟨j, h1, h2, h3⟩ | rfl)
        · exact ⟨j, by omega, h2, h3⟩
        · exact ⟨m, by omega, h, rfl⟩
      · rintro ⟨j, h1, h2, h3⟩
        rcases Nat.lt_or_ge j m with e | e
        · exact .inl ⟨j, e, h2, h3⟩
        · obtain rfl : j = m := by omega
          exact .inr h3
    · rename_i h
      rw [blks_mem c a m p]
      constructor
      · rintro ⟨j, h1, h2, h3⟩
        exact ⟨j, by omega, h2, h3⟩
      · rintro ⟨j, h1, h2, h3⟩
        rcases Nat.lt_or_ge j m with e | e
        · exact ⟨j, e, h2, h3⟩
        · obtain rfl : j = m := by omega
          exact absurd h2 h
theorem blks_in (c : Nat → Bool) (a m i : Nat) : inB (blks c a m) ((i : Int) + 1) = true ↔ i < m ∧ c (a + i) = true := by
  unfold inB
  rw [List.any_eq_true]
  constructor
  · rintro ⟨p, hp, h⟩
    obtain ⟨j, h1, h2, rfl⟩ := (blks_mem c a m p).1 hp
    simp only [Bool.and_eq_true, decide_eq_true_eq] at h
    obtain rfl : j = i := by omega
    exact ⟨h1, h2⟩
  · rintro ⟨h1, h2⟩
    exact ⟨(i + 1, i + 1), (blks_mem c a m _).2 ⟨i, h1, h2, rfl⟩, by simp⟩
/-- The blocks are the first 16. -/
theorem blks_win {c : Nat → Bool} {a m n : Nat} (h16 : cB c a m ≤ 16) (hend : a + m = n ∨ cB c a m = 16) : ∀ i, a + i < n → inB (blks c a m) ((i : Int) + 1) = winB c a i := by
  intro i hi
  rw [Bool.eq_iff_iff, blks_in]
  unfold winB
  rw [Bool.and_eq_true, decide_eq_true_eq]
  constructor
  · rintro ⟨h1, h2⟩
    have h3 : cB c a (i + 1) ≤ cB c a m := cB_mono c a (by omega)
    have h4 : cB c a (i + 1) = cB c a i + (if c (a + i) = true then 1 else 0) := rfl
    rw [if_pos h2] at h4
    exact ⟨h2, by omega⟩
  · rintro ⟨h1, h2⟩
    refine ⟨?_, h1⟩
    rcases Nat.lt_or_ge i m with e | e
    · exact e
    · have h3 : cB c a m ≤ cB c a i := cB_mono c a e
      omega
end Go.Proofs.Ytconfmjgoipejaa
namespace Go.Proofs.Ytconfmjgoipejaa
open Go.RowKit Go.Shelf
/-- n cells of type T in block b. -/
structure RoW (T : TypeId) (v : Nat → Value) (b n : Nat) (W : World) : Prop where
  bt : BT W b T
  cl : ∀ i, i < n → W.cell? ⟨b, i, none⟩ = some (v i)
  fz : ∀ i, W.frozen? ⟨b, i, none⟩ = false
section
variable {W W' : World} {T : TypeId} {v : Nat → Value} {b n : Nat}
theorem RoW.fr {Q : Nat → Prop} (h : RoW T v b n W) (hf : Fr Q W W') (hq : ¬ Q b) : RoW T v b n W' :=
  ⟨h.bt.same (hf.block b h.bt.lt hq), fun i hi => (hf.cell ⟨b, i, none⟩ h.bt.lt hq).trans (h.cl i hi), fun i => (hf.frozen ⟨b, i, none⟩ h.bt.lt hq).trans (h.fz i)⟩
theorem RoW.below (h : RoW T v b n W) (hb : Below W.heap.size W W') : RoW T v b n W' := h.fr (Q := fun _ => False) (Fr.of_below hb) (fun e => e)
theorem RoW.set (h : RoW T v b n W) {i : Nat} (hi : i < n) (u : Value) : RoW T (fun k => if k = i then u else v k) b n (W.setCell ⟨b, i, none⟩ u) := by
  refine ⟨h.bt.setCell _ _, fun k hk => ?_, fun k => by rw [World.frozen?_setCell]; exact h.fz k⟩
  rw [setCell_at W b i k u (by rw [h.cl i hi]; rfl)]
  by_cases e : k = i
  · rw [if_pos e, if_pos e]
  · rw [if_neg e, if_neg e]; exact h.cl k hk
theorem RoW.other (h : RoW T v b n W) (a : Addr) (u : Value) (he : a.block ≠ b) : RoW T v b n (W.setCell a u) :=
  h.fr (Fr.setCell (fun k => k = a.block) W a u rfl) (fun e => he e.symm)
theorem RoW.made (w : World) (z : Value) (T : TypeId) (n : Nat) (W : World) (hW : W = w.alloc (.cells (madeCells #[z] n) T)) : RoW T (fun _ => z) w.heap.size n W := by
  have hh : W.heap[w.heap.size]? = some (.cells (madeCells #[z] n) T) := by rw [hW]; exact World.alloc_heap_new w _
  refine ⟨⟨_, (0, 0), hh⟩, fun i hi => ?_, fun i => ?_⟩
  · rw [hW, World.cell?_alloc_mark]
    simp [madeCells, hi, Nat.mod_one]
  · unfold World.frozen?
    dsimp only
    rw [hh]
    simp
end
theorem bool_infoQ : (Try.prog.info? 4).map (fun i => (i.zero, i.size, i.bytes)) = some (some (.bool false), 1, 1) := by kernel_rfl
theorem str_infoQ : (Try.prog.info? 9).map (fun i => (i.zero, i.size, i.bytes)) = some (some (.string ⟨#[]⟩), 1, 16) := by kernel_rfl
set_option maxRecDepth 100000 in
theorem mkBo (c : Nat) (hc : c ≤ 1000000) (w : World) : (Instr.makeSlice 50 (.int .i64 (c : Int)) (.int .i64 (c : Int))).run Try.prog w = .ok (.slice (some ⟨w.heap.size, 0, none⟩) c c) (w.alloc (.cells (madeCells #[.bool false] c) 4)) :=
  run_make_row' 50 4 (.bool false) 1 Try.underlying50 bool_infoQ rfl .i64 .i64 c (by omega) (by omega) w
set_option maxRecDepth 100000 in
theorem mkSt (c : Nat) (hc : c ≤ 1000000) (w : World) : (Instr.makeSlice 53 (.int .i64 (c : Int)) (.int .i64 (c : Int))).run Try.prog w = .ok (.slice (some ⟨w.heap.size, 0, none⟩) c c) (w.alloc (.cells (madeCells #[.string ⟨#[]⟩] c) 9)) :=
  run_make_row' 53 9 (.string ⟨#[]⟩) 16 Try.underlying53 str_infoQ rfl .i64 .i64 c (by omega) (by omega) w
/-- A turn's state in memory: bc: which came, bd: what came. -/
structure EnW (w : World) (q cum bc bd : Nat) (nx : List Nat) (P : List Pc) (c : Nat → Bool) (d : Nat → ByteArray) (L : List PcA) (W : World) : Prop where
  qu : ∃ D, OwQ w.heap.size D q L cum 9 nx W
  cm : RoW 4 (fun i => .bool (c i)) bc (P.length + 1) W
  dt : RoW 9 (fun i => .string (d i)) bd P.length W
  dk : ∀ (i : Nat) (p : Pc), P[i]? = some p → d i = ⟨#[]⟩ ∨ d i = strOf p.zs
  bl : Below w.heap.size w W
  o1 : w.heap.size ≤ bc
  o2 : w.heap.size ≤ bd
section
variable {w W W' : World} {q cum bc bd : Nat} {nx : List Nat} {P : List Pc} {c : Nat → Bool} {d : Nat → ByteArray} {L : List PcA}
theorem EnW.below (h : EnW w q cum bc bd nx P c d L W) (hb : Below W.heap.size W W') : EnW w q cum bc bd nx P c d L W' := by
  obtain ⟨D, hq⟩ := h.qu
  exact ⟨⟨D, hq.below hb⟩, h.cm.below hb, h.dt.below hb, h.dk, h.bl.trans (hb.mono h.bl.size), h.o1, h.o2⟩
/-- Behind one of the queue's calls. -/
theorem EnW.call (h : EnW w q cum bc bd nx P c d L W) {cum2 : Nat} {L2 : List PcA} (hf : Fr (qT w.heap.size W) W W') (hq : ∃ D, OwQ w.heap.size D q L2 cum2 9 nx W') : EnW w q cum2 bc bd nx P c d L2 W' :=
  ⟨hq, h.cm.fr hf (qT_not h.cm.bt (by decide) (by decide) (by decide)), h.dt.fr hf (qT_not h.dt.bt (by decide) (by decide) (by decide)), h.dk, h.bl.trans (Fr.below hf _ h.bl.size (fun _ e => e.1)), h.o1, h.o2⟩
/-- A store into a block of neither of them, that the call has made. -/
theorem EnW.box (h : EnW w q cum bc bd nx P c d L W) {Q : Nat → Prop} {T : TypeId} (hf : Fr Q W W') (hw : ∀ b, Q b → w.heap.size ≤ b) (hT : ∀ b, Q b → BT W b T) (h1 : T ≠ 4) (h2 : T ≠ 9) (h3 : T ≠ 71 ∧ T ≠ 34 ∧ T ≠ 82 ∧ T ≠ 5) : EnW w q cum bc bd nx P c d L W' := by
  obtain ⟨D, hq⟩ := h.qu
  refine ⟨⟨D, hq.fr hf (fun b U e hb => ?_) (fun b e => .inr ⟨T, hT b e, h3.2.2.2⟩)⟩, h.cm.fr hf (fun e => (hT _ e).ne h.cm.bt h1 rfl), h.dt.fr hf (fun e => (hT _ e).ne h.dt.bt h2 rfl), h.dk, h.bl.trans (Fr.below hf _ h.bl.size hw), h.o1, h.o2⟩
  have : U = T := by
    obtain ⟨c1, r1, e1⟩ := hT b e
    obtain ⟨c2, r2, e2⟩ := hb
    rw [e1] at e2
    injection e2 with e2
    injection e2 with _ e2 _
    exact e2.symm
  subst this
  exact ⟨h3.1, h3.2.1, h3.2.2.1⟩
theorem EnW.came (h : EnW w q cum bc bd nx P c d L W) {i : Nat} (hi : i < P.length) : EnW w q cum bc bd nx P (fun k => if k = i then true else c k) d L (W.setCell ⟨bc, i, none⟩ (.bool true)) := by
  obtain ⟨D, hq⟩ := h.qu
  have hf : Fr (fun k => k = bc) W (W.setCell ⟨bc, i, none⟩ (.bool true)) := Fr.setCell _ _ _ _ rfl
  have hs := h.cm.set (i := i) (by omega) (.bool true)
  refine ⟨⟨D, hq.fr hf (fun b U e hb => ?_) (fun b e => .inr ⟨_, e ▸ h.cm.bt, by decide⟩)⟩, ⟨hs.bt, fun k hk => ?_, hs.fz⟩, h.dt.other _ _ (fun e => h.cm.bt.ne h.dt.bt (by decide) e), h.dk, h.bl.trans (Fr.below hf _ h.bl.size (fun b e => by have := h.o1; omega)), h.o1, h.o2⟩
  · subst e
    have : U = 4 := by
      obtain ⟨c1, r1, e1⟩ := h.cm.bt
      obtain ⟨c2, r2, e2⟩ := hb
      rw [e1] at e2
      injection e2 with e2
      injection e2 with _ e2 _
      exact e2.symm
    subst this
    decide
  · rw [hs.cl k hk]
    by_cases e : k = i
    · rw [if_pos e, if_pos e]
    · rw [if_neg e, if_neg e]
theorem EnW.data (h : EnW w q cum bc bd nx P c d L W) {i : Nat} {p : Pc} (hp : P[i]? = some p) : EnW w q cum bc bd nx P c (fun k => if k = i then strOf p.zs else d k) L (W.setCell ⟨bd, i, none⟩ (.string (strOf p.zs))) := by
  obtain ⟨D, hq⟩ := h.qu
  have hi := (List.getElem?_eq_some_iff.1 hp).1
  have hf : Fr (fun k => k = bd) W (W.setCell ⟨bd, i, none⟩ (.string (strOf p.zs))) := Fr.setCell _ _ _ _ rfl
  have hs := h.dt.set hi (.string (strOf p.zs))
  refine ⟨⟨D, hq.fr hf (fun b U e hb => ?_) (fun b e => .inr ⟨_, e ▸ h.dt.bt, by decide⟩)⟩, h.cm.other _ _ (fun e => h.cm.bt.ne h.dt.bt (by decide) e.symm), ⟨hs.bt, fun k hk => ?_, hs.fz⟩, fun k p2 hp2 => ?_, h.bl.trans (Fr.below hf _ h.bl.size (fun b e => by have := h.o2; omega)), h.o1, h.o2⟩
  · subst e
    have : U = 9 := by
      obtain ⟨c1, r1, e1⟩ := h.dt.bt
      obtain ⟨c2, r2, e2⟩ := hb
      rw [e1] at e2
      injection e2 with e2
      injection e2 with _ e2 _
      exact e2.symm
    subst this
    decide
  · rw [hs.cl k hk]
    by_cases e : k = i
    · rw [if_pos e, if_pos e]
    · rw [if_neg e, if_neg e]
  · 
    by_cases e : k = i
    · rw [if_pos e]
      subst e
      rw [hp] at hp2
      obtain rfl := Option.some.inj hp2
      exact .inr rfl
    · rw [if_neg e]; exact h.dk k p2 hp2
end
/-- The chunks that were sent. -/
structure EnC (lo : Nat) (ca : Option Addr) (cc : Nat) (ys : List PcA) (W : World) : Prop where
  ct : OwnG 47 14 chQ W lo ca ys.length cc ys
  cd : ∀ y ∈ ys, OwnB W lo y.2.1 y.1.zs.length y.2.2 y.1.zs
theorem EnC.fr {lo : Nat} {ca : Option Addr} {cc : Nat} {ys : List PcA} {W W' : World} {Q : Nat → Prop} (h : EnC lo ca cc ys W) (hf : Fr Q W W') (h1 : ∀ b, BT W b 47 → ¬ Q b) (h2 : ∀ b, BT W b 5 → ¬ Q b) : EnC lo ca cc ys W' :=
  ⟨OwnG.fr h.ct hf (fun g hg => h1 g (OwnG.bt h.ct g hg)), fun y hy => (h.cd y hy).frY hf h2⟩
theorem EnC.below {lo : Nat} {ca : Option Addr} {cc : Nat} {ys : List PcA} {W W' : World} (h : EnC lo ca cc ys W) (hb : Below W.heap.size W W') : EnC lo ca cc ys W' := h.fr (Q := fun _ => False) (Fr.of_below hb) (fun _ _ e => e) (fun _ _ e => e)
theorem EnC.one {lo : Nat} {ca : Option Addr} {cc : Nat} {ys : List PcA} {W : World} (h : EnC lo ca cc ys W) {T : TypeId} {b : Nat} (hb : BT W b T) (h1 : T ≠ 47) (h2 : T ≠ 5) (i : Nat) (u : Value) : EnC lo ca cc ys (W.setCell ⟨b, i, none⟩ u) :=
  h.fr (Fr.setCell (fun k => k = b) W ⟨b, i, none⟩ u rfl) (fun _ hk e => hb.ne (e ▸ hk) h1 rfl) (fun _ hk e => hb.ne (e ▸ hk) h2 rfl)
end Go.Proofs.Ytconfmjgoipejaa
namespace Go.Proofs.Ytconfmjgoipejaa
open Go.RowKit Go.Shelf
section
variable {w : World} {q cu bc bd : Nat} {nx : List Nat} {P : List Pc} {g : Nat} {c : Nat → Bool} {L M : List PcA} {K c0 kk lo : Nat} {sa : Option Addr} {sc : Nat} {ys : List PcA} {i : Nat} {ci : Nat → Bool} {d : Nat → ByteArray} {W W' : World}
/-- What was sent as the i-th. -/
theorem ends_one (hE : EnS P g c L) (hP : ∀ i p, P[i]? = some p → p.t = addV 4294967296 c0 ((i + 1 : Nat) : Int) ∧ p.zs.length ≤ 9) (hys : ys.map (·.1) = ((L.take K).filter dueB).map (·.1)) {y : PcA} (hy : ys[i]? = some y) :
    ∃ A p, g ≤ A ∧ A < P.length ∧ P[A]? = some p ∧ y.1.zs = p.zs ∧ y.1.t = addV 4294967296 c0 ((A + 1 : Nat) : Int) ∧ snB L K (A - g) = true := by
  have h1 : y.1 ∈ ys.map (·.1) := List.mem_map.2 ⟨y, List.mem_of_getElem? hy, rfl⟩
  rw [hys] at h1
  obtain ⟨x, hx, hxy⟩ := List.mem_map.1 h1
  obtain ⟨hx1, hx2⟩ := List.mem_filter.1 hx
  obtain ⟨k, hk⟩ := List.getElem?_of_mem hx1
  rw [List.getElem?_take] at hk
  split at hk
  · rename_i hkK
    obtain ⟨p, hp⟩ := hE.pc hk
    obtain ⟨a1, a2, _⟩ := hE.at_ k x p hk hp
    refine ⟨g + k, p, by omega, (List.getElem?_eq_some_iff.1 hp).1, hp, by rw [← hxy, a2], by rw [← hxy, a1]; exact (hP _ p hp).1, ?_⟩
    rw [Nat.add_sub_cancel_left, snB_at K hk, hx2]
    simpa using hkK
  · cases hk
theorem addV_nat (c0 A : Nat) : addV 4294967296 c0 ((A + 1 : Nat) : Int) = (c0 + (A + 1)) % 4294967296 := by
  unfold addV
  omega
theorem ends_at {first c0 A t : Nat} (hc : c0 = (first + 4294967295) % 4294967296) (hf : first < 4294967296) (hA : A < 180) (ht : t = addV 4294967296 c0 ((A + 1 : Nat) : Int)) : IntKind.u32.wrap ((t : Int) - (first : Int)) = (A : Int) := by
  rw [addV_nat] at ht
  have h1 : (t + 4294967296 - first) % 4294967296 = A := by omega
  rw [IntKind.wrap_u32]
  omega
structure EnL (w : World) (q cu bc bd : Nat) (nx : List Nat) (P : List Pc) (g : Nat) (c : Nat → Bool) (L M : List PcA) (K c0 kk lo : Nat) (sa : Option Addr) (sc : Nat) (ys : List PcA) (i : Nat) (ci : Nat → Bool) (d : Nat → ByteArray) (W : World) : Prop where
  em : EnM g c ci L K
  ov : ∀ j, P.length ≤ j → ci j = false
  hw : EnW w q cu bc bd nx P ci d M W
  hc : EnC lo sa sc ys W
  dn : 300 ≤ kk → ∀ j y m, j < i → ys[j]? = some y → m < P.length → y.1.t = addV 4294967296 c0 ((m + 1 : Nat) : Int) → ci m = true
theorem EnL.start (h : EnW w q cu bc bd nx P c d M W) (hv : ∀ j, P.length ≤ j → c j = false) (hc : EnC lo sa sc ys W) : EnL w q cu bc bd nx P g c L M K c0 kk lo sa sc ys 0 c d W :=
  ⟨⟨fun _ h => h, fun _ h1 h2 => by rw [h1] at h2; cases h2⟩, hv, h, hc, fun _ _ _ _ h => absurd h (Nat.not_lt_zero _)⟩
theorem EnL.below (h : EnL w q cu bc bd nx P g c L M K c0 kk lo sa sc ys i ci d W) (hb : Below W.heap.size W W') : EnL w q cu bc bd nx P g c L M K c0 kk lo sa sc ys i ci d W' :=
  ⟨h.em, h.ov, h.hw.below hb, h.hc.below hb, h.dn⟩
theorem EnL.data (h : EnL w q cu bc bd nx P g c L M K c0 kk lo sa sc ys i ci d W) {A : Nat} {p : Pc} (hp : P[A]? = some p) : EnL w q cu bc bd nx P g c L M K c0 kk lo sa sc ys i ci (fun k => if k = A then strOf p.zs else d k) (W.setCell ⟨bd, A, none⟩ (.string (strOf p.zs))) :=
  ⟨h.em, h.ov, h.hw.data hp, h.hc.one h.hw.dt.bt (by decide) (by decide) A _, h.dn⟩
theorem EnL.lost (h : EnL w q cu bc bd nx P g c L M K c0 kk lo sa sc ys i ci d W) (hk : kk < 300) : EnL w q cu bc bd nx P g c L M K c0 kk lo sa sc ys (i + 1) ci d W :=
  ⟨h.em, h.ov, h.hw, h.hc, fun h3 => by omega⟩
theorem EnL.came (h : EnL w q cu bc bd nx P g c L M K c0 kk lo sa sc ys i ci d W) (h180 : P.length ≤ 180) {A : Nat} {y : PcA} (hy : ys[i]? = some y) (hA : A < P.length) (hg : g ≤ A) (hs : snB L K (A - g) = true) (ht : y.1.t = addV 4294967296 c0 ((A + 1 : Nat) : Int)) :
    EnL w q cu bc bd nx P g c L M K c0 kk lo sa sc ys (i + 1) (fun k => if k = A then true else ci k) d (W.setCell ⟨bc, A, none⟩ (.bool true)) := by
  refine ⟨⟨fun k hk => ?_, fun k hk hn => ?_⟩, fun j hj => ?_, h.hw.came hA, h.hc.one h.hw.cm.bt (by decide) (by decide) A _, fun h3 j y2 m hj hy2 hm ht2 => ?_⟩
  · skip
    split
    · rfl
    · exact h.em.up k hk
  · skip
    split at hk
    · rename_i e
      subst e
      exact ⟨hg, hs⟩
    · exact h.em.nw k hk hn
  · skip
    rw [if_neg (by omega)]
    exact h.ov j hj
  · skip
    by_cases e : j = i
    · subst e
      rw [hy] at hy2
      obtain rfl := Option.some.inj hy2
      rw [ht] at ht2
      have : m = A := by
        unfold addV at ht2
        omega
      rw [if_pos this]
    · split
      · rfl
      · exact h.dn h3 j y2 m (by omega) hy2 hm ht2
/-- Behind the loop: whatever was sent came, if 300 are past. -/
theorem EnL.all (h : EnL w q cu bc bd nx P g c L M K c0 kk lo sa sc ys ys.length ci d W) (hE : EnS P g c L) (hP : ∀ i p, P[i]? = some p → p.t = addV 4294967296 c0 ((i + 1 : Nat) : Int) ∧ p.zs.length ≤ 9) (hys : ys.map (·.1) = ((L.take K).filter dueB).map (·.1)) :
    300 ≤ kk → ∀ i, snB L K i = true → ci (g + i) = true := by
  intro h3 i hs
  unfold snB at hs
  split at hs
  · rename_i x hx
    simp only [Bool.and_eq_true, decide_eq_true_eq] at hs
    obtain ⟨p, hp⟩ := hE.pc hx
    have hm : x.1 ∈ ((L.take K).filter dueB).map (·.1) := List.mem_map.2 ⟨x, List.mem_filter.2 ⟨List.mem_of_getElem? (by rw [List.getElem?_take, if_pos hs.2]; exact hx), hs.1⟩, rfl⟩
    rw [← hys] at hm
    obtain ⟨y, hy, hyx⟩ := List.mem_map.1 hm
    obtain ⟨j, hj⟩ := List.getElem?_of_mem hy
    exact h.dn h3 j y (g + i) (List.getElem?_eq_some_iff.1 hj).1 hj (List.getElem?_eq_some_iff.1 hp).1 (by rw [hyx, (hE.at_ i x p hx hp).1]; exact (hP _ p hp).1)
  · cases hs
/-- A chunk of those sent, as it lies. -/
theorem EnC.at_ (h : EnC lo sa sc ys W) {y : PcA} (hy : ys[i]? = some y) : ∃ b, sa = some ⟨b, 0, none⟩ ∧ lo ≤ b ∧ b < W.heap.size ∧ ys.length ≤ sc ∧ W.cell? ⟨b, i * 14 + 2, none⟩ = some (.int .u32 (y.1.t : Nat)) ∧ W.cell? ⟨b, i * 14 + 13, none⟩ = some (.slice y.2.1 y.1.zs.length y.2.2) := by
  have hi := (List.getElem?_eq_some_iff.1 hy).1
  obtain ⟨b, h1, h2, h3, h4, _, h6, _⟩ := OwnG.at_ h.ct chQ_len (by omega)
  exact ⟨b, h1, h2, h3, h4, h6 i y hy 2 _ rfl, h6 i y hy 13 _ rfl⟩
end
end Go.Proofs.Ytconfmjgoipejaa
namespace Go.Proofs.Ytconfmjgoipejaa
open Go.RowKit Go.Shelf
def bkV (p : Nat × Nat) : List Value := [.int .u16 (p.1 : Nat), .int .u16 (p.2 : Nat)]
theorem layBk : Lays Try.prog 43 55 2 4 bkV :=
  ⟨by kernel_rfl, ⟨.agg #[.int .u16 0, .int .u16 0], by kernel_rfl, by kernel_rfl⟩, by decide, fun _ => rfl, fun x u hu => by
    simp only [bkV, List.mem_cons, List.not_mem_nil, or_false] at hu
    rcases hu with rfl | rfl <;> rfl⟩
/-- The acknowledgement in its box, blocks up to j. -/
structure EnK (w : World) (q cu bc bd : Nat) (nx : List Nat) (P : List Pc) (ci : Nat → Bool) (d : Nat → ByteArray) (M : List PcA) (bx tS m j : Nat) (ba : Option Addr) (bk : Nat) (W : World) : Prop where
  hw : EnW w q cu bc bd nx P ci d M W
  tx : BT W bx 47
  sx : Stc W bx (skV tS ba (blks ci m j).length bk)
  ow : OwnG 55 2 bkV W w.heap.size ba (blks ci m j).length bk (blks ci m j)
  o3 : w.heap.size ≤ bx
section
variable {w : World} {q cu bc bd : Nat} {nx : List Nat} {P : List Pc} {ci : Nat → Bool} {d : Nat → ByteArray} {M : List PcA} {bx tS m j : Nat} {ba : Option Addr} {bk : Nat} {W W' : World}
theorem EnK.below (h : EnK w q cu bc bd nx P ci d M bx tS m j ba bk W) (hb : Below W.heap.size W W') : EnK w q cu bc bd nx P ci d M bx tS m j ba bk W' :=
  ⟨h.hw.below hb, h.tx.below hb, h.sx.below hb, OwnG.below h.ow hb, h.o3⟩
theorem EnK.skip (h : EnK w q cu bc bd nx P ci d M bx tS m j ba bk W) (hc : ci (m + j) = false) : EnK w q cu bc bd nx P ci d M bx tS m (j + 1) ba bk W := by
  have e : blks ci m (j + 1) = blks ci m j := by
    show (if ci (m + j) = true then _ else _) = _
    rw [if_neg (by rw [hc]; decide)]
  refine ⟨h.hw, h.tx, ?_, ?_, h.o3⟩
  · rw [e]; exact h.sx
  · rw [e]; exact h.ow
/-- One block more. -/
theorem EnK.push (h : EnK w q cu bc bd nx P ci d M bx tS m j ba bk W) (hc : ci (m + j) = true) (hj : j ≤ 1000) (Va : World) (hVa : Va = W.alloc (.cells #[.int .u16 ((j + 1 : Nat) : Int), .int .u16 ((j + 1 : Nat) : Int)] 55)) :
    ∃ g c2 Vb, (∀ ty, (Builtin.append_ #[43, 43] ty #[.slice ba (blks ci m j).length bk, .slice (some ⟨W.heap.size, 0, none⟩) 1 1]).run Try.prog Va = .ok (.slice (some ⟨g, 0, none⟩) ((blks ci m j).length + 1) c2) Vb) ∧
      Stc Vb bx (skV tS ba (blks ci m j).length bk) ∧ (blks ci m (j + 1)).length = (blks ci m j).length + 1 ∧
      EnK w q cu bc bd nx P ci d M bx tS m (j + 1) (some ⟨g, 0, none⟩) c2 (Vb.setCell ⟨bx, 10, none⟩ (.slice (some ⟨g, 0, none⟩) ((blks ci m j).length + 1) c2)) := by
  have bVa : Below W.heap.size W Va := by rw [hVa]; exact (Below.refl _ _).alloc (Nat.le_refl _) _
  have sVa := Stc.new W [.int .u16 ((j + 1 : Nat) : Int), .int .u16 ((j + 1 : Nat) : Int)] 55 Va hVa
  have hln : (blks ci m j).length ≤ 1000 := by rw [blks_len]; exact Nat.le_trans (cB_le ci m j) hj
  have ha := h.below bVa
  obtain ⟨g, c2, Vb, hr, hown, hgr, hor, hg⟩ := OwnG.app layBk ha.ow 0 (j + 1, j + 1) ⟨W.heap.size, 0, none⟩ (fun i u hu => by
    have ea : (⟨W.heap.size, 0, none⟩ : Addr).add i = ⟨W.heap.size, i, none⟩ := by
      unfold Addr.add
      split <;> simp_all
    rw [ea]
    exact sVa.cell i u hu) (by simp [maxLen]; omega) (by omega) (by have := h.hw.bl.size; have := bVa.size; omega)
  have hfb : Fr (fun b => (Value.slice ba (blks ci m j).length bk).ownBlock = some b) Va Vb := Fr.grown hgr (fun k e => e)
  have tg := fun g hg => OwnG.bt ha.ow g hg
  have e : blks ci m (j + 1) = blks ci m j ++ [(j + 1, j + 1)] := by
    show (if ci (m + j) = true then _ else _) = _
    rw [if_pos hc]
  have el : (blks ci m (j + 1)).length = (blks ci m j).length + 1 := by rw [e]; simp
  have nx1 : ¬ (Value.slice ba (blks ci m j).length bk).ownBlock = some bx := fun e => ha.tx.ne (tg _ e) (by decide) rfl
  have tb : BT Vb bx 47 := ha.tx.same (hfb.block _ ha.tx.lt nx1)
  have sb := ha.sx.fr hfb nx1
  have wb : EnW w q cu bc bd nx P ci d M Vb := ha.hw.box hfb (fun b e => (OwnG.lo ha.ow b e)) tg (by decide) (by decide) (by decide)
  refine ⟨g, c2, Vb, fun ty => ?_, sb, el, ?_, tb.setCell _ _, ?_, ?_, h.o3⟩
  · exact hr
  · exact wb.box (Q := fun k => k = bx) (T := 47) (Fr.setCell _ _ _ _ rfl) (fun b e => by rw [e]; exact h.o3) (fun b e => e ▸ tb) (by decide) (by decide) (by decide)
  · rw [el]
    exact sb.putQ (j := 10) (by show 10 < 14; decide) _
  · rw [el, e]
    exact OwnG.fr hown (Fr.setCell (fun k => k = bx) _ ⟨bx, 10, none⟩ _ rfl) (fun k hk e => by
      have := OwnG.bt hown k hk
      exact tb.ne (e ▸ this) (by decide) rfl)
end
end Go.Proofs.Ytconfmjgoipejaa
namespace Go.Proofs.Ytconfmjgoipejaa
open Go.RowKit Go.Shelf
theorem app_eqE {P : Program} {S : TypeId} {ops : Array Oper} {rest : List Oper} {o : Oper} {A : Act} {w w' : World} {Q : Exit → Act → World → Prop} {v u r : Value} {ty : TypeId} (hgd : Region.wanted o (yielded ops A.tmps) = true) (s x : Operand)
    (ho : o.op = .call { callee := .builtin .append, args := #[s, x], argTypes := #[S, S] }) (hty : o.type = ty) (hs : A.eval s = v) (hx : A.eval x = u)
    (hrun : (Builtin.append_ #[S, S] ty #[v, u]).run P w = .ok r w') (hK : wpList P ops Q rest (A.put o.dst r) w') : wpList P ops Q (o :: rest) A w :=
  wpList_step fun K hK' => by
    rw [if_pos hgd]
    subst hty
    have := hK' _ _ hK
    unfold Oper.wp
    simp [execOp, ho, resolve, invoke, builtin, hs, hx, hrun, Result.andThen]
    exact this
theorem toList_loop (b : ByteArray) : ∀ (n i : Nat) (r : List UInt8), b.size - i = n → ∃ l, ByteArray.toList.loop b i r = r.reverse ++ l ∧ (0 < n → l ≠ []) := by
  intro n
  induction n with
  | zero =>
    intro i r h
    unfold ByteArray.toList.loop
    rw [if_neg (by omega)]
    exact ⟨[], (List.append_nil _).symm, fun h => absurd h (Nat.lt_irrefl _)⟩
  | succ n ih =>
    intro i r h
    unfold ByteArray.toList.loop
    rw [if_pos (by omega)]
    obtain ⟨l, hl, _⟩ := ih (i + 1) (b.get! i :: r) (by omega)
    rw [hl, List.reverse_cons, List.append_assoc]
    exact ⟨_, rfl, fun _ e => by cases e⟩
theorem str_ne {b : ByteArray} (h : ¬ b = ⟨#[]⟩) : ¬ b.toList = [] := by
  intro e
  obtain ⟨l, hl, hn⟩ := toList_loop b b.size 0 [] rfl
  unfold ByteArray.toList at e
  rw [hl] at e
  have h0 : ¬ 0 < b.size := fun hp => hn hp e
  apply h
  cases b with
  | mk d =>
    congr 1
    exact Array.size_eq_zero_iff.1 (by have : ByteArray.size ⟨d⟩ = d.size := rfl; omega)
theorem first_no (ci : Nat → Bool) : ∀ n, (∀ j, n ≤ j → ci j = false) → ∃ m, m ≤ n ∧ (∀ j, j < m → ci j = true) ∧ ci m = false := by
  intro n hn
  have key : ∀ k, k ≤ n → (∀ j, j < k → ci j = true) ∨ ∃ m, m ≤ n ∧ (∀ j, j < m → ci j = true) ∧ ci m = false := by
    intro k
    induction k with
    | zero => exact fun _ => .inl fun j hj => absurd hj (Nat.not_lt_zero _)
    | succ k ih =>
      intro hk
      rcases ih (by omega) with h | h
      · by_cases hc : ci k = true
        · refine .inl fun j hj => ?_
          rcases Nat.lt_succ_iff_lt_or_eq.1 hj with e | rfl
          · exact h j e
          · exact hc
        · exact .inr ⟨k, by omega, h, by simpa using hc⟩
      · exact .inr h
  rcases key n (Nat.le_refl _) with h | h
  · exact ⟨n, Nat.le_refl _, h, hn n (Nat.le_refl _)⟩
  · exact h
theorem ends_ahead {c0 g m cu tS : Nat} (hcu : cu = (c0 + g) % 4294967296) (htS : tS = (c0 + m) % 4294967296) (hgm : g ≤ m) (hm : m ≤ 180) : aheadV 4294967296 cu tS = ((m - g : Nat) : Int) := by
  have hu : upV 4294967296 cu tS = m - g := by
    unfold upV
    omega
  unfold aheadV
  rw [hu, if_neg (by omega)]
theorem EnS.before {P : List Pc} {g : Nat} {c ci : Nat → Bool} {L : List PcA} {K m : Nat} (h : EnS P g c L) (em : EnM g c ci L K) (hm : ci m = false) : g ≤ m := by
  rcases Nat.lt_or_ge m g with e | e
  · have := em.up m (h.gn m e)
    rw [this] at hm
    cases hm
  · exact e
section
variable {P : List Pc} {g : Nat} {c ci : Nat → Bool} {L : List PcA} {K wy m j : Nat}
theorem ends_ack (hE : EnS P g c L) (hem : EnM g c ci L K) (hov : ∀ j, P.length ≤ j → ci j = false) (hwy : wy < 2) (hm1 : ∀ j, j < m → ci j = true) (hm2 : ci m = false) (hmP : m ≤ P.length) (h16 : (blks ci m j).length ≤ 16) (hend : m + j = P.length ∨ (blks ci m j).length = 16) :
    EnA P g c ci L K wy (m - g) (blks ci m j) ∧ m - g ≤ topL (mapTo (sndF wy) L K) ∧ blkOk (m - g) (topL (mapTo (sndF wy) L K)) (blks ci m j) := by
  have hgm := hE.before hem hm2
  have hlen := hE.len
  have e : g + (m - g) = m := by omega
  refine ⟨⟨hE, hem, hwy, hov, fun k hk => hm1 k (by omega), by rw [e]; exact hm2, fun i hi => ?_⟩, ?_, fun p hp => ?_⟩
  · rw [e] at hi ⊢
    rw [blks_len] at h16 hend
    exact blks_win h16 hend i hi
  · by_cases h0 : m - g = 0
    · omega
    · have := EnS.top (wy := wy) hE hem (i := m - g - 1) (by omega) (hm1 _ (by omega))
      omega
  · obtain ⟨k, hk, hck, rfl⟩ := (blks_mem ci m j p).1 hp
    have hk0 : k ≠ 0 := fun e => by rw [e, Nat.add_zero, hm2] at hck; cases hck
    have hkP : m + k < P.length := by
      rcases Nat.lt_or_ge (m + k) P.length with e | e
      · exact e
      · rw [hov _ e] at hck; cases hck
    have := EnS.top (wy := wy) hE hem (i := m - g + k) (by omega) (by rw [show g + (m - g + k) = m + k by omega]; exact hck)
    refine ⟨?_, Nat.le_refl _, ?_⟩ <;> dsimp only <;> omega
theorem EnA.mem {G : Nat} {bs : List (Nat × Nat)} (h : EnA P g c ci L K wy G bs) {y : PcA} (hy : y ∈ mapTo (sndF wy) L K) : y.1.wy < 2 ∧ y.1.ms ≤ 3 ∧ ∃ x ∈ L, y.1.zs = x.1.zs := by
  obtain ⟨i, hi⟩ := List.getElem?_of_mem hy
  have hil := (List.getElem?_eq_some_iff.1 hi).1
  rw [mapTo_lenA] at hil
  obtain ⟨x, hx⟩ : ∃ x, L[i]? = some x := ⟨_, List.getElem?_eq_getElem hil⟩
  obtain ⟨y2, hy2, _, h2, h3, _, h5, _⟩ := h.mid hx
  rw [hi] at hy2
  obtain rfl := Option.some.inj hy2
  exact ⟨h3, h5, x, List.mem_of_getElem? hx, h2⟩
end
/-- The blocks as they lie. -/
theorem ends_blr {W : World} {lo : Nat} {ba : Option Addr} {bk : Nat} {ci : Nat → Bool} {m j : Nat} (h : OwnG 55 2 bkV W lo ba (blks ci m j).length bk (blks ci m j)) (hj : j ≤ 1000) : BlR W ba (blks ci m j).length bk (blks ci m j) := by
  have hln : (blks ci m j).length ≤ j := by rw [blks_len]; exact cB_le ci m j
  by_cases h0 : (blks ci m j).length = 0
  · refine ⟨rfl, ?_, by omega, .inl h0⟩
    omega
  · obtain ⟨b, rfl, _, h3, h4, _, h6, _⟩ := OwnG.at_ h (fun _ => rfl) (by omega)
    refine ⟨rfl, h4, by omega, .inr ⟨b, 0, rfl, h3, fun i p hp => ?_⟩⟩
    obtain ⟨k, hk, _, rfl⟩ := (blks_mem ci m j p).1 (List.mem_of_getElem? hp)
    refine ⟨by dsimp only; omega, by dsimp only; omega, ?_, ?_⟩
    · rw [Nat.zero_add]; exact h6 i _ hp 0 _ rfl
    · rw [Nat.zero_add]; exact h6 i _ hp 1 _ rfl
end Go.Proofs.Ytconfmjgoipejaa
namespace Go.Proofs.Ytconfmjgoipejaa
open Go.RowKit Go.ChangeShapes Go.WideShapes Go.ChangeAt
structure SlBo (w : World) (a : Option Addr) (n c : Nat) (dd : List Bool) : Prop where
  len : dd.length = n
  cap : n ≤ c
  small : n ≤ 281474976710656
  at_ : n = 0 ∨ ∃ b off, a = some ⟨b, off, none⟩ ∧ b < w.heap.size ∧ ∀ i x, dd[i]? = some x → w.cell? ⟨b, off + i, none⟩ = some (.bool x)
theorem SlBo.below {w w' : World} {a : Option Addr} {n c : Nat} {dd : List Bool} (h : SlBo w a n c dd) (hb : Below w.heap.size w w') : SlBo w' a n c dd := by
  refine ⟨h.len, h.cap, h.small, ?_⟩
  rcases h.at_ with h0 | ⟨b, off, rfl, hlt, hc⟩
  · exact .inl h0
  · exact .inr ⟨b, off, rfl, Nat.lt_of_lt_of_le hlt hb.size, fun i x hx => (hb.cell (p := ⟨b, off + i, none⟩) hlt).trans (hc i x hx)⟩
theorem SlBo.bytes1 : Try.prog.bytesOf 4 = 1 := by kernel_rfl
theorem SlBo.open {H : Type} {enc : TypeId × Value → H} {w : World} {base : Nat} {held : Bool} {fuel : Nat} {a : Option Addr} {n c : Nat} {y : DataW H × List MemPlace}
    (h : DataW.trod enc Try.prog w base (fun _ => true) held fuel 50 [.slice a n c] = some y) (hw : ∀ n ∈ y.1.weights Try.prog 50, n ≤ reachBytes) : ∃ dd, SlBo w a n c dd := by
  rcases Go.Deep.open_bools Try.underlying50 Try.underlying4 (by kernel_rfl) h with ⟨hcs, _⟩ | ⟨x, l, k, B, hcs, _, hl, hm, hx, hc⟩
  · simp at hcs
    obtain ⟨rfl, rfl, rfl⟩ := hcs
    exact ⟨[], rfl, Nat.le_refl _, by omega, .inl rfl⟩
  · simp at hcs
    obtain ⟨rfl, rfl, rfl⟩ := hcs
    subst hx
    have hsz : c ≤ reachBytes := by
      have := hw ((((List.range n).map fun i => (DataW.lit (.bool (B i)) : DataW H)).length + ((List.range (c - n)).map fun j => (DataW.lit (.bool (B (n + j))) : DataW H)).length) * Try.prog.bytesOf 4) (by
        simp only [Go.Deep.boolRow]
        unfold DataW.weights
        rw [Try.underlying50]
        simp)
      rw [SlBo.bytes1] at this
      simp at this
      omega
    simp only [reachBytes] at hsz
    refine ⟨(List.range n).map B, by simp, hl, by omega, ?_⟩
    by_cases h0 : n = 0
    · exact .inl h0
    · obtain ⟨b, off, spot⟩ := x
      have hc0 := hc 0 (by omega)
      have hspot : spot = none := by simpa [Addr.add] using World.cell?_spot hc0
      subst hspot
      have hlt := World.block_lt_of_cell? _ _ hc0
      refine .inr ⟨b, off, rfl, hlt, fun i v hv => ?_⟩
      have hi : i < n := by
        have := (List.getElem?_eq_some_iff.1 hv).1
        simpa using this
      have := hc i (by omega)
      simp [hi] at hv
      rw [← hv]
      by_cases h9 : i = 0
      · subst h9; simpa [Addr.add] using this
      · simpa [Addr.add, h9] using this
end Go.Proofs.Ytconfmjgoipejaa
namespace Go.Proofs.Ytconfmjgoipejaa
open Go.RowKit Go.Shelf
theorem elBo : Try.prog.elem 50 = 4 := by simp [Program.elem, Try.underlying50]
theorem cellsBo : Try.prog.cellsOf 4 = 1 := by kernel_rfl
theorem undBo : Try.prog.underlying 50 = some (.slice (Try.prog.elem 50)) := by rw [elBo]; exact Try.underlying50
theorem sizeBo (w : World) : (sizeOf (Try.prog.elem 50)).run Try.prog w = .ok 1 w := by
  obtain ⟨i, hi, hz0, hz1, hz2⟩ := info_parts bool_infoQ
  rw [elBo, run_sizeOf w hi, cellsBo]
theorem slice_boI (a : Option Addr) (n c j : Nat) (h : j ≤ c) (w : World) : (Instr.slice 50 (.slice a n c) none (some (.int .i64 (j : Int))) none).run Try.prog w = .ok (.slice a j c) w := by
  rw [run_slice_h w 50 a n c undBo .i64 j (by omega) (by omega), sizeBo]
  simp only [Result.andThen, sliced]
  have e : (if c = 0 then a else a.map (·.add (0 * 1))) = a := by
    split
    · rfl
    · cases a with
      | none => rfl
      | some p => simp [Addr.add]
  rw [e]
  simp
theorem slice_bo (a : Option Addr) (n c : Nat) (h : 300 ≤ c) (w : World) : (Instr.slice 50 (.slice a n c) none (some (.int .i64 300)) none).run Try.prog w = .ok (.slice a 300 c) w := slice_boI a n c 300 h w
theorem SlBo.take {w : World} {a : Option Addr} {n c : Nat} {dd : List Bool} (h : SlBo w a n c dd) (hn : 300 < n) : SlBo w a 300 c (dd.take 300) := by
  have h1 := h.len
  have h2 := h.cap
  refine ⟨by rw [List.length_take]; omega, by omega, by decide, ?_⟩
  rcases h.at_ with h0 | ⟨b, off, rfl, hlt, hc⟩
  · omega
  · refine .inr ⟨b, off, rfl, hlt, fun i x hx => hc i x ?_⟩
    rw [List.getElem?_take] at hx
    split at hx
    · exact hx
    · cases hx
/-- The turn loop's state. -/
structure EnT (w : World) (q c0 bc bd : Nat) (nx : List Nat) (P : List Pc) (t k : Nat) (W : World) : Prop where
  ex : ∃ g c d L, t + enM P.length k c g L ≤ 3 * P.length + 603 ∧ k ≤ 180 * t ∧ EnS P g c L ∧ (∀ j, P.length ≤ j → c j = false) ∧ EnW w q ((c0 + g) % 4294967296) bc bd nx P c d L W
theorem sumL_nine {L : List PcA} (h : ∀ x ∈ L, x.1.zs.length ≤ 9) : sumL L L.length ≤ 9 * L.length := by
  rw [sumL_all]
  induction L with
  | nil => exact Nat.le_refl _
  | cons x L ih =>
    have h1 := h x (List.mem_cons_self ..)
    have h2 := ih (fun y hy => h y (List.mem_cons_of_mem _ hy))
    rw [List.map_cons, List.sum_cons, List.length_cons]
    omega
section
variable {w W : World} {q cu bc bd : Nat} {nx : List Nat} {P : List Pc} {c ci : Nat → Bool} {d : Nat → ByteArray} {L M : List PcA} {bx tS c0 g m j K wy bk : Nat} {ba : Option Addr}
theorem ends_sack (hK : EnK w q cu bc bd nx P ci d M bx tS m j ba bk W) (hMd : M = mapTo (sndF wy) L K) (hA : EnA P g c ci L K wy (m - g) (blks ci m j)) (hG : m - g ≤ topL (mapTo (sndF wy) L K)) (hB : blkOk (m - g) (topL (mapTo (sndF wy) L K)) (blks ci m j)) (h16 : (blks ci m j).length ≤ 16)
    (hcu : cu = (c0 + g) % 4294967296) (htS : tS = (c0 + m) % 4294967296) (hgm : g ≤ m) (hmP : m + j ≤ P.length) (h180 : P.length ≤ 180) (hz : ∀ x ∈ L, x.1.zs.length ≤ 9) :
    Calls Try.prog 17 #[.pointer (some ⟨q, 0, none⟩), .agg (skV tS ba (blks ci m j).length bk).toArray] W fun e W' => (∃ (x y : Nat) (u v : Bool), e = .returned (.tuple #[.agg #[.int .i64 (x : Nat), .int .i64 (y : Nat), .bool u, .bool v], .int .i64 0])) ∧ EnW w q tS bc bd nx P ci d (skM (blks ci m j) (m - g) M) W' := by
  subst hMd
  obtain ⟨D, hq⟩ := hK.hw.qu
  have hlen := hA.en.len
  have hl : (mapTo (sndF wy) L K).length = L.length := mapTo_lenA _ _ _
  have hzM : ∀ y ∈ mapTo (sndF wy) L K, y.1.zs.length ≤ 9 := fun y hy => by
    obtain ⟨_, _, x, hx, e⟩ := hA.mem hy
    rw [e]; exact hz x hx
  have hs := sumL_nine hzM
  refine (sack_own hq (by omega) (by omega) (fun y hy _ => (hA.mem hy).1) (fun y hy => Nat.le_trans (hA.mem hy).2.1 (by decide)) (by omega) tS (m - g) (by omega) (ends_ahead hcu htS hgm (by omega)) hG (ends_blr hK.ow (by omega)) (fun b o s e => ?_) h16 hB).mono ?_
  · refine ⟨55, ?_, by decide, by decide, by decide⟩
    rcases hK.ow.own.2 with ⟨hv, _⟩ | ⟨g', cap2, cur, hv, _, hh, _⟩
    · injection hv with e1
      rw [e1] at e
      cases e
    · injection hv with e1
      rw [e1] at e
      injection e with e
      injection e with e _ _
      subst e
      exact ⟨cur, _, hh⟩
  · rintro e W' ⟨rfl, hq2, hf⟩
    exact ⟨⟨_, _, _, _, rfl⟩, hK.hw.call hf ⟨D, hq2⟩⟩
theorem ends_exp (h : EnW w q cu bc bd nx P ci d L W) (hL : L.length ≤ 100000) (wy : Int) (hw0 : 0 ≤ wy) (hw2 : wy < 2) :
    Calls Try.prog 18 #[.pointer (some ⟨q, 0, none⟩), .int .i64 wy] W fun e W' => (∃ x : Nat, e = .returned (.tuple #[.int .i64 (x : Nat), .int .i64 0])) ∧ EnW w q cu bc bd nx P ci d (L.map (expP wy)) W' := by
  obtain ⟨D, hq⟩ := h.qu
  refine (expire_own hq hL wy hw0 hw2).mono ?_
  rintro e W' ⟨hx, hq2, hf⟩
  exact ⟨hx, h.call hf ⟨D, hq2⟩⟩
theorem ends_turn {t k yn : Nat} (hA : EnA P g c ci L K wy (m - g) (blks ci m j)) (hz : ∀ p ∈ P, p.zs.length ≤ 9) (hK : K = sndK L 50 100 (airL L 2)) (hg : g < P.length) (hm : yn = ((L.take K).filter dueB).length) (hall : 300 ≤ k → ∀ i, snB L K i = true → ci (g + i) = true)
    (hM : t + enM P.length k c g L ≤ 3 * P.length + 603) (hk : k ≤ 180 * t) (hy : yn ≤ 180) (hgm : g ≤ m) (hov : ∀ j, P.length ≤ j → ci j = false) (htS : tS = (c0 + m) % 4294967296) {M : List PcA} (hML : M = turnL L K wy (m - g) (blks ci m j) yn) (hW : EnW w q tS bc bd nx P ci d M W) :
    EnT w q c0 bc bd nx P (t + 1) (k + yn) W := by
  have h1 := hA.falls hz hK hg hm hall
  have h2 := hA.turn yn
  have e : g + (m - g) = m := by omega
  rw [e] at h1 h2
  subst hML
  exact ⟨m, ci, d, _, by omega, by omega, h2, hov, by rw [← htS]; exact hW⟩
theorem ends_left (hA : EnA P g c ci L K wy (m - g) (blks ci m j)) (h180 : P.length ≤ 180) (yn : Nat) : (turnL L K wy (m - g) (blks ci m j) yn).length ≤ 100000 := by
  have := (hA.turn yn).len
  omega
end
end Go.Proofs.Ytconfmjgoipejaa
