/- law13.do: a piece to both. -/
import Derived.Test.YtjaheelgcjafcaaLB
namespace Go.Proofs.Ytjaheelgcjafcaa
open Go.RowKit Go.MapKept Go.Maps
theorem ChQ.ckW {w : World} {x : ChQ} (h : x.Wf w) : CkW w x.ck := by
  unfold ChQ.Wf at h
  obtain ⟨h1, h2, h3, h4, h5, h6, _, _, _, _, h11, h12, h13, h14⟩ := h
  exact ⟨⟨h1, h2, h3, h4, h5, h6, h11.small, SlK.small h12⟩, h13.pmR.prsB, h14.1⟩
/-- The bytes of a chunk's value. -/
theorem AddR.shape {w : World} {p nb mb wb : Nat} {Y : Nat → Prop} {s : SmS} {k f t st ss pp n : Nat} {zs : List Nat} {E : Int} {e : Ending} {w' : World} (h : AddR w p nb mb wb Y s k f t st ss pp n zs E e w') : ∃ (H : Int) (a : Option Addr) (m c : Nat), e = .returned (.tuple #[.slice a m c, .int .i64 H]) := by
  cases h with
  | bad _ he _ => exact ⟨_, _, _, _, he⟩
  | ok _ _ a m c _ _ _ _ he => exact ⟨_, _, _, _, he⟩
theorem AddR.fr_ {w : World} {p nb mb wb : Nat} {Y : Nat → Prop} {s : SmS} {k f t st ss pp n : Nat} {zs : List Nat} {E : Int} {e : Ending} {w' : World} (h : AddR w p nb mb wb Y s k f t st ss pp n zs E e w') : Fr (fun g => g = nb ∨ g = mb ∨ g = wb) w w' := by
  cases h with
  | bad _ _ hb => exact Fr.of_below hb
  | ok _ _ _ _ _ _ _ _ _ _ _ _ hf => exact hf
theorem RAdR.shape {W0 w : World} {p : Nat} {nx : List Nat} {E : List ChQ} {V : List RyD} {Z : Nat → Prop} {x : ChQ} {e : Ending} {w' : World} (h : RAdR W0 w p nx E V Z x e w') : ∃ (H : Int) (a : Option Addr) (m c : Nat), e = .returned (.tuple #[.slice a m c, .int .i64 H]) := by
  cases h with
  | bad _ he _ => exact ⟨_, _, _, _, he⟩
  | no _ _ _ _ he => exact ⟨_, _, _, _, he⟩
  | yes _ _ _ _ _ _ _ _ _ _ _ _ he => exact ⟨_, _, _, _, he⟩
theorem RAdR.fr_ {W0 w : World} {p : Nat} {nx : List Nat} {E : List ChQ} {V : List RyD} {Z : Nat → Prop} {x : ChQ} {e : Ending} {w' : World} (h : RAdR W0 w p nx E V Z x e w') : Fr (fun g => g = p) w w' := by
  cases h with
  | bad _ _ hb => exact Fr.of_below hb
  | no _ _ _ _ _ _ _ hf => exact hf
  | yes _ _ _ _ _ _ _ _ _ _ _ _ _ hT hf => exact hf.trans hT.fr
theorem OwnB.frO {w w' : World} {B : Nat} {a : Option Addr} {n c : Nat} {zs : List Nat} {Q : Nat → Prop} (h : OwnB w B a n c zs) (hf : Fr Q w w') (hq : ∀ g, (Value.slice a n c).ownBlock = some g → ¬ Q g) : OwnB w' B a n c zs := by
  obtain ⟨h1, ⟨h2, h3⟩, h4⟩ := h
  refine ⟨h1, ⟨h2, ?_⟩, h4⟩
  rcases h3 with h3 | ⟨g, cap, cur, hv, hb, hh, hr⟩
  · exact .inl h3
  · injection hv with e1 e2 e3
    subst e1 e3
    exact .inr ⟨g, c, cur, rfl, hb, (hf.block g (Array.getElem?_eq_some_iff.1 hh).1 (hq g rfl)).trans hh, hr⟩
/-- The bytes of what was told are turned: blocks from B up to hi, none of them the row's. -/
structure DoD (B hi : Nat) (P0 : Nat → Prop) (w7 : World) (a : Option Addr) (n c : Nat) (xs : List Mq) (wr : World) : Prop where
  own : OwnM wr B a n c xs
  dat : ∀ y ∈ xs, ∃ zs', OwnB wr B y.2.1 y.1.zs.length y.2.2 zs'
  fr : Fr (fun g => P0 g ∨ (B ≤ g ∧ g < hi)) w7 wr
  lt : ∀ y ∈ xs, ∀ g, (Value.slice y.2.1 y.1.zs.length y.2.2).ownBlock = some g → g < hi
theorem DoD.store {B hi : Nat} {P0 : Nat → Prop} {w7 : World} {a : Option Addr} {n c : Nat} {xs : List Mq} {wr : World} (h : DoD B hi P0 w7 a n c xs wr) {y : Mq} (hy : y ∈ xs) {g : Nat} (hg : y.2.1 = some ⟨g, 0, none⟩) (k v : Nat) (hv : v < 256) : DoD B hi P0 w7 a n c xs (wr.setCell ⟨g, k, none⟩ (.int .u8 (v : Nat))) := by
  obtain ⟨zs, hz⟩ := h.dat y hy
  have hgb : (Value.slice y.2.1 y.1.zs.length y.2.2).ownBlock = some g := by rw [hg]; rfl
  have hf : Fr (fun q => q = g) wr (wr.setCell ⟨g, k, none⟩ (.int .u8 (v : Nat))) := Fr.setCell _ _ _ _ rfl
  have hap := ownB_apart hz h.own g hgb
  refine ⟨OwnG.fr h.own hf (fun q hq e => by have e : q = g := e; subst e; exact hap hq), fun y' hy' => ?_, h.fr.trans (hf.mono (fun q _ e => by have e : q = g := e; subst e; exact .inr ⟨(hz.own.lt q hgb).1, h.lt y hy q hgb⟩)), h.lt⟩
  obtain ⟨zs', hz'⟩ := h.dat y' hy'
  by_cases e : (Value.slice y'.2.1 y'.1.zs.length y'.2.2).ownBlock = some g
  · have e2 : y'.2.1 = some ⟨g, 0, none⟩ := by
      rcases hz'.own.2 with ⟨hv2, _⟩ | ⟨g2, cap, cur, hv2, _⟩
      · rw [hv2] at e; cases e
      · rw [hv2] at e
        obtain rfl : g2 = g := Option.some.inj e
        injection hv2
    rw [e2] at hz' ⊢
    exact ⟨_, hz'.store k v hv⟩
  · exact ⟨zs', hz'.frO hf (fun q hq eq => by have eq : q = g := eq; subst eq; exact e hq)⟩
theorem xor8 : ∀ m : Int, (m = 1 ∨ m = 2) → ∀ v : Nat, v < 256 → bits BinOp.xor IntKind.u8 (v : Int) m = ((bits BinOp.xor IntKind.u8 (v : Int) m).toNat : Int) ∧ (bits BinOp.xor IntKind.u8 (v : Int) m).toNat < 256 := by
  have h1 : ∀ v : Nat, v < 256 → bits BinOp.xor IntKind.u8 (v : Int) 1 = ((bits BinOp.xor IntKind.u8 (v : Int) 1).toNat : Int) ∧ (bits BinOp.xor IntKind.u8 (v : Int) 1).toNat < 256 := by decide +kernel
  have h2 : ∀ v : Nat, v < 256 → bits BinOp.xor IntKind.u8 (v : Int) 2 = ((bits BinOp.xor IntKind.u8 (v : Int) 2).toNat : Int) ∧ (bits BinOp.xor IntKind.u8 (v : Int) 2).toNat < 256 := by decide +kernel
  rintro m (rfl | rfl)
  · exact h1
  · exact h2
theorem tup_inj {a a' : Option Addr} {n n' c c' : Nat} {H H' : Int} (h : Ending.returned (.tuple #[.slice a n c, .int .i64 H]) = .returned (.tuple #[.slice a' n' c', .int .i64 H'])) : a = a' ∧ n = n' ∧ c = c' ∧ H = H' := by
  injection h with h
  injection h with h
  have h2 := congrArg Array.toList h
  simp only [List.cons.injEq, Value.slice.injEq, Value.int.injEq, and_true, true_and] at h2
  exact ⟨h2.1.1, h2.1.2.1, h2.1.2.2, h2.2⟩
theorem TwoR.samem {W0 w w1 w2 : World} {px nb mb wb py : Nat} {Y Z : Nat → Prop} {a : Option Addr} {n c : Nat} {a2 : Option Addr} {n2 c2 : Nat} (h : TwoR W0 w w1 w2 px nb mb wb py Y Z a n c a2 n2 c2) : Calls Try.prog 34 #[.slice a n c, .slice a2 n2 c2] w2 fun e w' => e = .returned (.bool true) ∧ Below w2.heap.size w2 w' := by
  obtain ⟨B, B2, s', wr', Y', r', E', V', Z', xs, ys, k1, k2, k3, k4, k5, k6, k7, k8, k9, k10, _⟩ := h.ex
  have e := h.same
  subst e
  refine samemsgs_yes k6 k7 k8 (fun y hy => (k10 y hy).sl ?_) k9 (by have := h.le; omega)
  have hm : y.1 ∈ ys.map (·.1) := by rw [← k8]; exact List.mem_map.2 ⟨y, hy, rfl⟩
  obtain ⟨y', hy', e⟩ := List.mem_map.1 hm
  have e : y'.1 = y.1 := e
  rw [← e]
  exact (k9 y' hy').small
theorem Fr.trans' {P Q : Nat → Prop} {a b c : World} (h : Fr P a b) (k : Fr Q b c) : Fr (fun g => P g ∨ Q g) a c := (h.mono (fun _ _ h => .inl h)).trans (k.mono (fun _ _ h => .inr h))
set_option maxRecDepth 100000 in
set_option maxHeartbeats 8000000 in
theorem do_any {W0 w : World} {px nb mb wb py : Nat} (h : BoS W0 w px nb mb wb py) (x : ChQ) (hx : x.Wf W0) :
    Calls Try.prog 19 #[.pointer (some ⟨px, 0, none⟩), .pointer (some ⟨py, 0, none⟩), .agg x.vals.toArray] w fun e w' => e = .returned (.bool true) ∧ BoS W0 w' px nb mb wb py := by
  have hxs := ChQ.sml hx
  have hsl0 := (ChQ.sl hx).below h.bel
  have hxn : x.xN ≤ 140737488351232 := by unfold ChQ.Wf at hx; exact hx.2.2.2.2.2.2.2.2.2.2.2.2.2.2.1
  obtain ⟨W2, hW2⟩ : ∃ W2, W2 = (w.alloc (.cells #[.int .u8 (x.k : Nat), .int .u8 (x.f : Nat), .int .u32 (x.t : Nat), .int .u16 (x.st : Nat), .int .u16 (x.ss : Nat), .int .u32 (x.pp : Nat), .int .u32 (x.tg : Nat), .int .u32 (x.rm : Nat), .int .u16 (x.os : Nat), .int .u16 (x.is : Nat), .slice x.bA x.bN x.bC, .slice x.dA x.dN x.dC, .slice x.pA x.pN x.pC, .slice x.xA x.xN x.xC] 47)).alloc (.cells #[.int .u8 (x.k : Nat), .int .u8 (x.f : Nat), .int .u32 (x.t : Nat), .int .u16 (x.st : Nat), .int .u16 (x.ss : Nat), .int .u32 (x.pp : Nat), .int .u32 (x.tg : Nat), .int .u32 (x.rm : Nat), .int .u16 (x.os : Nat), .int .u16 (x.is : Nat), .slice x.bA x.bN x.bC, .slice x.dA x.dN x.dC, .slice x.pA x.pN x.pC, .slice x.xA x.xN x.xC] 47) := ⟨_, rfl⟩
  have hz1 : (w.alloc (.cells #[.int .u8 (x.k : Nat), .int .u8 (x.f : Nat), .int .u32 (x.t : Nat), .int .u16 (x.st : Nat), .int .u16 (x.ss : Nat), .int .u32 (x.pp : Nat), .int .u32 (x.tg : Nat), .int .u32 (x.rm : Nat), .int .u16 (x.os : Nat), .int .u16 (x.is : Nat), .slice x.bA x.bN x.bC, .slice x.dA x.dN x.dC, .slice x.pA x.pN x.pC, .slice x.xA x.xN x.xC] 47)).heap.size = w.heap.size + 1 := by simp
  have hz2 : W2.heap.size = w.heap.size + 2 := by rw [hW2]; simp
  have b2 : Below w.heap.size w W2 := by rw [hW2]; exact ((Below.refl _ _).alloc (Nat.le_refl _) _).alloc (by simp) _
  have s5 : Stc W2 w.heap.size x.vals := by rw [hW2]; exact (Stc.new w x.vals 47 _ rfl).below ((Below.refl _ _).alloc (Nat.le_refl _) _)
  have s7 : Stc W2 (w.heap.size + 1) x.vals := by
    have := Stc.new (w.alloc (.cells #[.int .u8 (x.k : Nat), .int .u8 (x.f : Nat), .int .u32 (x.t : Nat), .int .u16 (x.st : Nat), .int .u16 (x.ss : Nat), .int .u32 (x.pp : Nat), .int .u32 (x.tg : Nat), .int .u32 (x.rm : Nat), .int .u16 (x.os : Nat), .int .u16 (x.is : Nat), .slice x.bA x.bN x.bC, .slice x.dA x.dN x.dC, .slice x.pA x.pN x.pC, .slice x.xA x.xN x.xC] 47)) x.vals 47 W2 (by rw [hW2]; rfl)
    rwa [hz1] at this
  have hoe := own_empty W2
  have be : Below W2.heap.size W2 (W2.alloc (.cells #[] 5)) := (Below.refl _ _).alloc (Nat.le_refl _) _
  have hsl := hsl0.below (b2.trans (be.mono b2.size))
  have t13 := (s5.below be).cell 13 _ rfl
  have HS := (show Hid _ from And.intro h (And.intro hx (And.intro b2 (And.intro s5 (And.intro s7 hxs)))))
  clear h hx b2 s5 hsl0 hxs

  show Calls _ _ #[.pointer (some ⟨px, 0, none⟩), .pointer (some ⟨py, 0, none⟩), .agg #[.int .u8 (x.k : Nat), .int .u8 (x.f : Nat), .int .u32 (x.t : Nat), .int .u16 (x.st : Nat), .int .u16 (x.ss : Nat), .int .u32 (x.pp : Nat), .int .u32 (x.tg : Nat), .int .u32 (x.rm : Nat), .int .u16 (x.os : Nat), .int .u16 (x.is : Nat), .slice x.bA x.bN x.bC, .slice x.dA x.dN x.dC, .slice x.pA x.pN x.pC, .slice x.xA x.xN x.xC]] w _
  obtain ⟨W3, hW3⟩ : ∃ W3, W3 = W2.alloc (.cells #[] 5) := ⟨_, rfl⟩
  have hoe2 : OwnB ((((w.alloc (.cells #[.int .u8 (x.k : Nat), .int .u8 (x.f : Nat), .int .u32 (x.t : Nat), .int .u16 (x.st : Nat), .int .u16 (x.ss : Nat), .int .u32 (x.pp : Nat), .int .u32 (x.tg : Nat), .int .u32 (x.rm : Nat), .int .u16 (x.os : Nat), .int .u16 (x.is : Nat), .slice x.bA x.bN x.bC, .slice x.dA x.dN x.dC, .slice x.pA x.pN x.pC, .slice x.xA x.xN x.xC] 47)).alloc (.cells #[.int .u8 (x.k : Nat), .int .u8 (x.f : Nat), .int .u32 (x.t : Nat), .int .u16 (x.st : Nat), .int .u16 (x.ss : Nat), .int .u32 (x.pp : Nat), .int .u32 (x.tg : Nat), .int .u32 (x.rm : Nat), .int .u16 (x.os : Nat), .int .u16 (x.is : Nat), .slice x.bA x.bN x.bC, .slice x.dA x.dN x.dC, .slice x.pA x.pN x.pC, .slice x.xA x.xN x.xC] 47)).alloc (.cells #[] 5))) (w.heap.size + 2) (some ⟨w.heap.size + 1 + 1, 0, none⟩) 0 0 [] := by
    rw [← hW2, show w.heap.size + 1 + 1 = W2.heap.size from hz2.symm]
    exact hoe.base (by omega)
  have hsl2 := hsl
  rw [hW2] at hsl2
  have HW := (show Hid _ from And.intro hW2 (And.intro hW3 (And.intro hz2 be)))
  clear hsl hoe s7 be t13 hz1
  go_enter Try.func19, Try.ntmps19
  go_wp2_with (at_builtin; go_must (refine app_list rfl _ _ rfl (w.heap.size + 2) _ 0 0 [] rfl hoe2 _ x.xN x.xC x.xZ rfl hsl2 (by omega) (by simp) ?_))
  intro a2 c2 w4 ho4 hg4
  clear hoe2 hsl2
  rw [← HW.out.1, ← HW.out.2.1] at hg4
  have hW3s : W3.heap.size = w.heap.size + 3 := by rw [HW.out.2.1]; simp [hz2]
  have hf4 : Fr (fun g => g = w.heap.size + 2) W3 w4 := Fr.grown hg4 (fun k hk => (Option.some.inj hk).symm)
  obtain ⟨h, hx, b2, s5, s7, hxs⟩ := HS.out
  have b3 : Below W2.heap.size W2 W3 := by rw [HW.out.2.1]; exact HW.out.2.2.2
  have s54 := (s5.below b3).fr hf4 (by omega)
  have s74 := (s7.below b3).fr hf4 (by omega)
  have z13 := s74.cell 13 _ rfl
  have z13f := s74.free 13
  obtain ⟨w5, hw5⟩ : ∃ w5, w5 = w4.setCell ⟨w.heap.size + 1, 13, none⟩ (.slice a2 x.xN c2) := ⟨_, rfl⟩
  have hf5 : Fr (fun g => g = w.heap.size + 1) w4 w5 := by rw [hw5]; exact Fr.setCell _ _ _ _ rfl
  have s55 := s54.fr hf5 (by omega)
  have s75 : Stc w5 (w.heap.size + 1) [.int .u8 (x.k : Nat), .int .u8 (x.f : Nat), .int .u32 (x.t : Nat), .int .u16 (x.st : Nat), .int .u16 (x.ss : Nat), .int .u32 (x.pp : Nat), .int .u32 (x.tg : Nat), .int .u32 (x.rm : Nat), .int .u16 (x.os : Nat), .int .u16 (x.is : Nat), .slice x.bA x.bN x.bC, .slice x.dA x.dN x.dC, .slice x.pA x.pN x.pC, .slice a2 x.xN c2] := by rw [hw5]; exact s74.set 13 _
  have ho5 : OwnB w5 (w.heap.size + 2) a2 x.xN c2 x.xZ := by
    have := ho4.fr hf5 (fun g h1 _ e => by have e : g = w.heap.size + 1 := e; omega)
    exact this
  have bw5 : Below w.heap.size w w5 := (b2.trans (b3.mono b2.size)).trans ((hf4.trans' hf5).below _ (by omega) (fun g hg => by rcases hg with h | h <;> omega))
  clear s54 b3 hf4
  obtain ⟨s, wr0, Y, r, E, V, Z, h1, h2, h3, h4, h5⟩ := h.ex
  have hx5 := ChQ.wf_below hx (h.bel.trans (bw5.mono h.bel.size))
  obtain ⟨x2, hx2⟩ : ∃ x2 : ChQ, x2 = { x with xA := a2, xC := c2 } := ⟨_, rfl⟩
  have hx2w : x2.Wf w5 := by
    rw [hx2]
    unfold ChQ.Wf at hx5 ⊢
    obtain ⟨v1, v2, v3, v4, v5, v6, v7, v8, v9, v10, v11, v12, v13, v14, v15⟩ := hx5
    exact ⟨v1, v2, v3, v4, v5, v6, v7, v8, v9, v10, v11, v12, v13, ho5.sl (by omega), v15⟩
  have hA0 := sadd_ck (h1.below bw5) x2.ck (ChQ.ckW hx2w) (.agg #[.int .u8 (x.k : Nat), .int .u8 (x.f : Nat), .int .u32 (x.t : Nat), .int .u16 (x.st : Nat), .int .u16 (x.ss : Nat), .int .u32 (x.pp : Nat), .int .u32 (x.tg : Nat), .int .u32 (x.rm : Nat), .int .u16 (x.os : Nat), .int .u16 (x.is : Nat), .slice x.bA x.bN x.bC, .slice x.dA x.dN x.dC, .slice x.pA x.pN x.pC, .slice a2 x.xN c2]) (by rw [hx2]; rfl)
  have ek : chkOf x2.ck = chkOf x.ck := by rw [hx2]; rfl
  rw [ek] at hA0
  have HA0 : Hid (Calls Try.prog 14 #[.pointer (some ⟨px, 0, none⟩), .agg #[.int .u8 (x.k : Nat), .int .u8 (x.f : Nat), .int .u32 (x.t : Nat), .int .u16 (x.st : Nat), .int .u16 (x.ss : Nat), .int .u32 (x.pp : Nat), .int .u32 (x.tg : Nat), .int .u32 (x.rm : Nat), .int .u16 (x.os : Nat), .int .u16 (x.is : Nat), .slice x.bA x.bN x.bC, .slice x.dA x.dN x.dC, .slice x.pA x.pN x.pC, .slice a2 x.xN c2]] w5 (AddR w5 px nb mb wb Y s x.k x.f x.t x.st x.ss x.pp x.xN x.xZ (chkOf x.ck))) := by
    subst hx2
    exact hA0
  have HP := (show Hid _ from And.intro h1 (And.intro h2 (And.intro h3 (And.intro h4 (And.intro h5 (And.intro h.ne (And.intro h.new h.bel)))))))
  have HQ := (show Hid _ from And.intro hx (And.intro hxs (And.intro s55 (And.intro s75 (And.intro ho5 bw5)))))
  have y0 := s74.cell 0 _ rfl
  have y1 := s74.cell 1 _ rfl
  have y2 := s74.cell 2 _ rfl
  have y3 := s74.cell 3 _ rfl
  have y4 := s74.cell 4 _ rfl
  have y5 := s74.cell 5 _ rfl
  have y6 := s74.cell 6 _ rfl
  have y7 := s74.cell 7 _ rfl
  have y8 := s74.cell 8 _ rfl
  have y9 := s74.cell 9 _ rfl
  have y10 := s74.cell 10 _ rfl
  have y11 := s74.cell 11 _ rfl
  have y12 := s74.cell 12 _ rfl
  clear hA0 ek hx2w hx5 h1 h2 h3 h4 h5 h hx b2 s5 s7 hxs s74 hf5 s55 s75 ho5 bw5 ho4 hg4 hx2
  go_wp2_with fail
  rw [← hw5]
  refine HA0.out.mono ?_
  clear HA0 y0 y1 y2 y3 y4 y5 y6 y7 y8 y9 y10 y11 y12 z13 z13f hw5
  rintro e1 w6 hA
  obtain ⟨H1, a6, n6, c6, he1⟩ := hA.shape
  subst he1
  obtain ⟨h1, h2, h3, h4, h5, hne, hnew, hbel⟩ := HP.out
  obtain ⟨hx, hxs, s55, s75, ho5, bw5⟩ := HQ.out
  have hf6 : Fr (fun g => g = nb ∨ g = mb ∨ g = wb) w5 w6 := hA.fr_
  have hw56 := hf6.size
  have hnl := h1.nl
  have hml := h1.mp.lt
  have hwl := h1.wm.lt
  have s56 := s55.fr hf6 (by omega)
  have s76 := s75.fr hf6 (by omega)
  have ho6 : OwnB w6 (w.heap.size + 2) a2 x.xN c2 x.xZ := ho5.fr hf6 (fun g h1 _ e => by omega)
  have h26 : RfS W0 w6 py r s.nx E V Z := (h2.below bw5).fr hf6 (fun g hg e => by have := h4 g hg; omega) (by omega) (fun g hg e => by omega)
  have hb6 : Below W0.heap.size W0 w6 := h26.b0
  have HR0 : Hid (Calls Try.prog 33 #[.pointer (some ⟨py, 0, none⟩), .agg #[.int .u8 (x.k : Nat), .int .u8 (x.f : Nat), .int .u32 (x.t : Nat), .int .u16 (x.st : Nat), .int .u16 (x.ss : Nat), .int .u32 (x.pp : Nat), .int .u32 (x.tg : Nat), .int .u32 (x.rm : Nat), .int .u16 (x.os : Nat), .int .u16 (x.is : Nat), .slice x.bA x.bN x.bC, .slice x.dA x.dN x.dC, .slice x.pA x.pN x.pC, .slice x.xA x.xN x.xC]] w6 (RAdR W0 w6 py s.nx E V Z x)) := radd_any (adc_of h1 h26 h3 hx)
  have HQ6 := (show Hid _ from And.intro hA (And.intro s76 (And.intro ho6 (And.intro hb6 hf6))))
  have y0 := s56.cell 0 _ rfl
  have y1 := s56.cell 1 _ rfl
  have y2 := s56.cell 2 _ rfl
  have y3 := s56.cell 3 _ rfl
  have y4 := s56.cell 4 _ rfl
  have y5 := s56.cell 5 _ rfl
  have y6 := s56.cell 6 _ rfl
  have y7 := s56.cell 7 _ rfl
  have y8 := s56.cell 8 _ rfl
  have y9 := s56.cell 9 _ rfl
  have y10 := s56.cell 10 _ rfl
  have y11 := s56.cell 11 _ rfl
  have y12 := s56.cell 12 _ rfl
  have y13 := s56.cell 13 _ rfl
  clear hA hf6 s56 s76 ho6 h26 hb6 h1 h2 h3 h4 h5 hne hnew hbel hx hxs s55 s75 ho5
  go_wp2_with fail
  refine HR0.out.mono ?_
  clear HR0
  rintro e2 w7 hR
  obtain ⟨H2, a8, n8, c8, he2⟩ := hR.shape
  subst he2
  obtain ⟨h1, h2, h3, h4, h5, hne, hnew, hbel⟩ := HP.out
  obtain ⟨hx, hxs, s55, s75, ho5, bw5⟩ := HQ.out
  obtain ⟨hA, s76, ho6, hb6, hf6⟩ := HQ6.out
  have hpyw := h2.st.lt
  have hw5s := bw5.size
  obtain ⟨H, a, n, c, a9, n9, c9, q1, q2, hTW⟩ := two_adds (h1.below bw5) (h2.below bw5) h3 h4 h5 hxs.2.2.1 hne hA hR hb6 hnew.2.2.2.2 (by omega)
  obtain ⟨rfl, rfl, rfl, rfl⟩ := tup_inj q1
  obtain ⟨rfl, rfl, rfl, rfl⟩ := tup_inj q2
  have HSM : Hid (Calls Try.prog 34 #[.slice a6 n6 c6, .slice a8 n8 c8] w7 fun e w' => e = .returned (.bool true) ∧ Below w7.heap.size w7 w') := hTW.samem
  have HN12 := (show Hid _ from And.intro hTW.same hTW.le)
  obtain ⟨B, B2, s', wr', Y', r', E', V', Z', xs, ys, k1, k2, k3, k4, k5, k6, k7, k8, k9, k10, k11, k12, k13, k14⟩ := hTW.ex
  have hf7 : Fr (fun g => g = py) w6 w7 := hR.fr_
  have s77 := s76.fr hf7 (by omega)
  have ho7 : OwnB w7 (w.heap.size + 2) a2 x.xN c2 x.xZ := ho6.frO hf7 (fun g hg e => by have := (ho6.own.lt g hg).1; have e : g = py := e; omega)
  have hog : ∀ g, (Value.slice a2 x.xN c2).ownBlock = some g → w.heap.size + 2 ≤ g ∧ g < w5.heap.size := fun g hg => ho5.own.lt g hg
  have HK := (show Hid _ from And.intro k1 (And.intro k2 (And.intro k3 (And.intro k4 (And.intro k5 (And.intro k6 (And.intro k10 (And.intro k11 (And.intro k12 (And.intro k13 (And.intro k14 (And.intro hTW.b12 (And.intro s77 (And.intro ho7 hog))))))))))))))
  clear hA s76 ho6 hb6 hf6 h1 h2 h3 h4 h5 hne hnew hbel hx hxs s55 s75 ho5 hTW k1 k2 k3 k4 k5 k6 k7 k8 k9 k10 k11 k12 k13 k14 hf7 s77 ho7 hog hR HQ6
  clear y0 y1 y2 y3 y4 y5 y6 y7 y8 y9 y10 y11 y12 y13 q1 q2 hnl hml hwl
  go_wp2_with fail
  refine HSM.out.mono ?_
  clear HSM
  rintro e w8 ⟨rfl, hb8⟩
  have HB8 := (show Hid _ from hb8)
  clear hb8
  go_wp2_with fail
  have HL1 : Hid (∃ zs', OwnB w8 (w.heap.size + 2) a2 x.xN c2 zs' ∧ Fr (fun g => (Value.slice a2 x.xN c2).ownBlock = some g) w7 w8) := by
    obtain ⟨_, _, _, _, _, _, _, _, _, _, _, _, k13, k14, _⟩ := HK.out
    exact ⟨_, k14.below HB8.out, Fr.of_below HB8.out⟩
  have HT7 : Hid (Stc w7 (w.heap.size + 1) [.int .u8 (x.k : Nat), .int .u8 (x.f : Nat), .int .u32 (x.t : Nat), .int .u16 (x.st : Nat), .int .u16 (x.ss : Nat), .int .u32 (x.pp : Nat), .int .u32 (x.tg : Nat), .int .u32 (x.rm : Nat), .int .u16 (x.os : Nat), .int .u16 (x.is : Nat), .slice x.bA x.bN x.bC, .slice x.dA x.dN x.dC, .slice x.pA x.pN x.pC, .slice a2 x.xN c2]) := HK.out.2.2.2.2.2.2.2.2.2.2.2.2.1
  have HOG : Hid (∀ g, (Value.slice a2 x.xN c2).ownBlock = some g → w.heap.size + 2 ≤ g ∧ g < w5.heap.size) := HK.out.2.2.2.2.2.2.2.2.2.2.2.2.2.2
  go_loopw [13] (fun iv wr => ∃ (i : Nat) (zs' : List Nat), i ≤ x.xN ∧ iv = .int .i64 (i : Nat) ∧ OwnB wr (w.heap.size + 2) a2 x.xN c2 zs' ∧ Fr (fun g => (Value.slice a2 x.xN c2).ownBlock = some g) w7 wr) (fun iv _ => x.xN - (intOf iv).toNat)
  case atStart =>
    obtain ⟨zs', hz1, hz2⟩ := HL1.out
    exact ⟨0, zs', by omega, rfl, hz1, hz2⟩
  case round =>
    obtain ⟨i, zs', hin, rfl, ho, hf⟩ := hrel
    clear HL1
    have t13 := (HT7.out.fr hf (fun e => by have := (HOG.out _ e).1; omega)).cell 13 _ rfl
    by_cases hlt : i < x.xN
    · have g1 : (i : Int) < (x.xN : Int) := by omega
      have g0 : (0 : Int) ≤ (i : Int) := by omega
      obtain ⟨og, hog, hcap⟩ : ∃ og, a2 = some ⟨og, 0, none⟩ ∧ x.xN ≤ c2 := by
        rcases ho.own.2 with ⟨_, h0⟩ | ⟨g, cap, cur, hv, _, _, hnc, _⟩
        · omega
        · injection hv with e1 e2 e3
          exact ⟨g, e1, by omega⟩
      subst hog
      have oc := ho.cell i hlt
      have of := ho.free i
      have hvb := ho.bnd i
      obtain ⟨v, hv⟩ : ∃ v, v = zs'.getD i 0 := ⟨_, rfl⟩
      rw [← hv] at oc hvb
      obtain ⟨hx1, hx2⟩ := xor8 1 (.inl rfl) v hvb
      obtain ⟨u, hu⟩ : ∃ u, u = (bits BinOp.xor IntKind.u8 (v : Int) 1).toNat := ⟨_, rfl⟩
      have hx3 : bits BinOp.xor IntKind.u8 (v : Int) 1 = (u : Int) := by rw [hu]; exact hx1
      rw [← hu] at hx2
      have HO := (show Hid _ from And.intro ho hf)
      clear ho hf hv hx1 hu hlt
      go_wp2
      go_roundw
      case rel => exact ⟨i + 1, zs'.set i u, by omega, by go_num, HO.out.1.store i u hx2, HO.out.2.trans (Fr.setCell _ _ _ _ rfl)⟩
      case measure => simp [intOf]; omega
    · obtain rfl : i = x.xN := by omega
      have g1 : ¬ (x.xN : Int) < (x.xN : Int) := by omega
      have HF1 := (show Hid _ from hf)
      have HD0 : Hid (DoD B w6.heap.size (fun g => (Value.slice a2 x.xN c2).ownBlock = some g) w7 a6 n6 c6 xs wr) := by
        obtain ⟨k1, k2, k3, k4, k5, k6, k10, k11, k12, _⟩ := HK.out
        refine ⟨OwnG.fr k6 hf (fun g hg e => by have := (k6.own.lt g hg).1; have := (HOG.out g e).2; omega), fun y hy => ⟨_, (k10 y hy).frO hf (fun g hg e => by have := ((k10 y hy).own.lt g hg).1; have := (HOG.out g e).2; omega)⟩, hf.mono (fun g _ h => .inl h), k11⟩
      have hn6 : n6 ≤ 1000 := HN12.out.2
      clear ho hf hlt
      go_wp2_with fail
      go_loopw [14] (fun jv wq => ∃ j : Nat, j ≤ n6 ∧ jv = .int .i64 (j : Nat) ∧ DoD B w6.heap.size (fun g => (Value.slice a2 x.xN c2).ownBlock = some g) w7 a6 n6 c6 xs wq) (fun jv _ => n6 - (intOf jv).toNat)
      case atStart => exact ⟨0, by omega, rfl, HD0.out⟩
      case round =>
        obtain ⟨j, hj, rfl, hD⟩ := hrel
        clear HD0
        by_cases hjl : j < n6
        · have g3 : (j : Int) < (n6 : Int) := by omega
          have g4 : (0 : Int) ≤ (j : Int) := by omega
          obtain ⟨ga, rfl, _, hga, hgc, _, _, _⟩ := hD.own.at_ (fun _ => rfl) (by omega)
          obtain ⟨y, hy⟩ : ∃ y, xs[j]? = some y := ⟨_, List.getElem?_eq_getElem (by rw [hD.own.len]; exact hjl)⟩
          obtain ⟨yn, hyn⟩ : ∃ n, n = y.1.zs.length := ⟨_, rfl⟩
          have HD1 := (show Hid _ from hD)
          have HYY := (show Hid _ from And.intro hy hyn)
          clear hD hy hyn
          go_wp2
          go_loopw [15] (fun kv wk => ∃ k : Nat, k ≤ yn ∧ kv = .int .i64 (k : Nat) ∧ DoD B w6.heap.size (fun g => (Value.slice a2 x.xN c2).ownBlock = some g) w7 (some ⟨ga, 0, none⟩) n6 c6 xs wk) (fun kv _ => yn - (intOf kv).toNat)
          case atStart => exact ⟨0, by omega, rfl, HD1.out⟩
          case round =>
            obtain ⟨k, hk, rfl, hE⟩ := hrel
            have r4 : wr.cell? ⟨ga, j * 5 + 4, none⟩ = some (.slice y.2.1 yn y.2.2) := by
              obtain ⟨g', e', _, _, _, _, hc, _⟩ := hE.own.at_ (fun _ => rfl) (by omega)
              obtain rfl : ga = g' := by injection e' with e'; injection e'
              rw [HYY.out.2]
              exact hc j y HYY.out.1 4 _ rfl
            by_cases hkl : k < yn
            · have g5 : (k : Int) < (yn : Int) := by omega
              have g6 : (0 : Int) ≤ (k : Int) := by omega
              have hym := List.mem_of_getElem? HYY.out.1
              obtain ⟨zz, hzz⟩ := hE.dat y hym
              obtain ⟨gd, hgd, hcd, hcm⟩ : ∃ gd, y.2.1 = some ⟨gd, 0, none⟩ ∧ yn ≤ y.2.2 ∧ yn ≤ 9223372036854775807 := by
                rcases hzz.own.2 with ⟨_, h0⟩ | ⟨g, cap, cur, hv, _, _, hnc, hcm, _⟩
                · have := HYY.out.2; omega
                · injection hv with e1 e2 e3
                  exact ⟨g, e1, by have := HYY.out.2; omega, by have := HYY.out.2; unfold maxLen at hcm; omega⟩
              rw [hgd, ← HYY.out.2] at hzz
              rw [hgd] at r4
              have oc := hzz.cell k hkl
              have of := hzz.free k
              have hvb := hzz.bnd k
              obtain ⟨v, hv⟩ : ∃ v, v = zz.getD k 0 := ⟨_, rfl⟩
              rw [← hv] at oc hvb
              obtain ⟨hx1, hx2⟩ := xor8 2 (.inr rfl) v hvb
              obtain ⟨u, hu⟩ : ∃ u, u = (bits BinOp.xor IntKind.u8 (v : Int) 2).toNat := ⟨_, rfl⟩
              have hx3 : bits BinOp.xor IntKind.u8 (v : Int) 2 = (u : Int) := by rw [hu]; exact hx1
              rw [← hu] at hx2
              have HE := (show Hid _ from And.intro hE (And.intro hym hgd))
              obtain ⟨yc, hyc⟩ : ∃ c, c = y.2.2 := ⟨_, rfl⟩
              rw [← hyc] at r4 hcd
              clear hE hzz hv hx1 hu hkl hym hgd hyc
              go_wp2
              go_roundw
              case rel => exact ⟨k + 1, by omega, by go_num, HE.out.1.store HE.out.2.1 HE.out.2.2 k u hx2⟩
              case measure => simp [intOf]; omega
            · obtain rfl : k = yn := by omega
              have g5 : ¬ (k : Int) < (k : Int) := by omega
              have HE := (show Hid _ from hE)
              obtain ⟨ya, hya⟩ : ∃ c, c = y.2.1 := ⟨_, rfl⟩
              obtain ⟨yc, hyc⟩ : ∃ c, c = y.2.2 := ⟨_, rfl⟩
              rw [← hya, ← hyc] at r4
              clear hE hkl hya hyc
              go_wp2
              go_roundw
              case rel => exact ⟨j + 1, by omega, by go_num, HE.out⟩
              case measure => simp [intOf]; omega
        · obtain rfl : j = n6 := by omega
          have g3 : ¬ (j : Int) < (j : Int) := by omega
          have HDE := (show Hid _ from hD)
          clear hD hjl
          go_wp2
          go_ret
          refine ⟨rfl, ?_⟩
          obtain ⟨k1, k2, k3, k4, k5, k6, k10, k11, k12, k13, k14, b12, _⟩ := HK.out
          obtain ⟨h1, h2, h3, h4, h5, hne, hnew, hbel⟩ := HP.out
          have hbw := hbel.size
          refine BoS.none k1 k2 k3 k4 k5 hne hnew b12 HDE.out.fr (fun g hg => ?_)
          have q1 := h1.st.lt
          have q2 := h1.nl
          have q3 := h1.mp.lt
          have q4 := h1.wm.lt
          have q5 := h2.st.lt
          have hgw : w.heap.size ≤ g ∧ (g < w5.heap.size ∨ B ≤ g) ∧ g < w6.heap.size := by
            rcases hg with hg | hg
            · have := HOG.out g hg
              exact ⟨by omega, .inl this.2, by omega⟩
            · exact ⟨by omega, .inr hg.1, hg.2⟩
          refine ⟨fun e => ?_, by omega, by omega, by omega, by omega, fun e => ?_, by omega, by omega⟩
          · obtain ⟨e1, e2⟩ := k13 g e
            rcases e1 with e1 | e1
            · have := h1.yl g e1; omega
            · omega
          · rcases k14 g e with e1 | e1
            · have := (h2.zp g e1).2; omega
            · omega
end Go.Proofs.Ytjaheelgcjafcaa
