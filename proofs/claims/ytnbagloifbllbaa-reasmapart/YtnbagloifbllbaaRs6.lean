/- reasm.isWhole. -/
import Derived.Test.YtnbagloifbllbaaRs5
namespace Go.Proofs.Ytnbagloifbllbaa
open Go.RowKit
/-- What is told of pieces: whether they are whole. -/
def WholeP (ts : List Pk) (b : Bool) : Prop := (b = true → ∃ x ∈ ts, x.mo = false ∧ (sumK ts : Int) = x.of + x.n) ∧ (b = false → (∀ x ∈ ts, x.mo = true) ∨ ∃ x ∈ ts, x.mo = false ∧ (sumK ts : Int) ≠ x.of + x.n)
structure IsW (ts : List Pk) (w : World) (e : Ending) (w' : World) : Prop where
  ans : ∃ b, e = .returned (.bool b) ∧ WholeP ts b
  bel : Below w.heap.size w w'
set_option maxRecDepth 100000 in
set_option maxHeartbeats 1000000 in
theorem isWhole_any (B : Nat) (a : Option Addr) (n c : Nat) (ts : List Pk) (w : World) (ho : OwnK w B a n c ts) (hb : sumK ts ≤ 1000000000) (hof : ∀ x ∈ ts, ∃ o : Nat, x.of = (o : Int) ∧ o ≤ 100000 ∧ x.n ≤ 100000) :
    Calls Try.prog 38 #[.slice a n c] w (IsW ts w) := by
  have hi := idxK_any 51 #[] (.func (.func 51) #[] #[]) rfl (fun x => !x.mo) B a n c ts w ho (fun args W => by kernel_rfl) (fun W _ x _ => wholec_any x.sr x.ds x.pr x.tt x.id x.dn x.mo x.of _ W)
  have hby := fun W (hW : Below w.heap.size w W) => bytesOf_any B a n c ts W (ho.below hW) hb
  go_enter Try.func38, Try.ntmps38
  go_wp2_with fail
  refine hi.mono ?_
  rintro e w1 ⟨v, rfl, hv, b1⟩
  clear hi
  have b1d := b1.trans ((Below.refl _ _).drew.mono b1.size)
  go_wp2_with fail
  obtain ⟨SU, hSU⟩ : ∃ SU, SU = sumK ts := ⟨_, rfl⟩
  simp only [← hSU] at hby
  have HSU := (show Hid _ from hSU)
  clear hSU
  rcases hv with ⟨rfl, hno⟩ | ⟨j, x, rfl, hx, hp, _⟩
  · have HNO := (show Hid _ from hno)
    clear hno
    refine wp_region_fixW mixedX (fun W => Below w.heap.size w W) [(6, .int .i64 (-1)), (7, .bool false), (8, .bool false), (9, undef), (10, undef), (11, undef), (12, undef), (13, undef), (14, undef), (15, undef), (16, undef), (17, .bool false), (2, .bool false)] ?Z1 ?hZ1 (by kernel_rfl) (by kernel_rfl) (by kernel_rfl) (by kernel_rfl) ?h01 ?hops1 ?he1
    case hZ1 => simp only [List.foldl_cons, List.foldl_nil, List.setIfInBounds_toArray, List.set_cons_zero, List.set_cons_succ]; rfl
    case h01 => exact b1d
    case hops1 =>
      refine ⟨?_, ?_, ?_, ?_, ?_, ?_, ?_, ?_, ?_, ?_, ?_, ?_, ?_, trivial⟩
      · exact fix_val (by rfl) (fun W hW => by go_simp; (try with_reducible rfl); (try omega))
      · exact fix_val (by rfl) (fun W hW => by go_simp; (try with_reducible rfl); (try omega))
      · exact fix_val (by rfl) (fun W hW => by go_simp; (try with_reducible rfl); (try omega))
      · exact fix_off (by rfl) (fun d hd => by cases hd; rfl)
      · exact fix_off (by rfl) (fun d hd => by cases hd; rfl)
      · exact fix_off (by rfl) (fun d hd => by cases hd; rfl)
      · exact fix_off (by rfl) (fun d hd => by cases hd; rfl)
      · exact fix_off (by rfl) (fun d hd => by cases hd; rfl)
      · exact fix_off (by rfl) (fun d hd => by cases hd; rfl)
      · exact fix_off (by rfl) (fun d hd => by cases hd; rfl)
      · exact fix_off (by rfl) (fun d hd => by cases hd; rfl)
      · exact fix_val (by rfl) (fun W hW => by go_simp; (try with_reducible rfl); (try omega))
      · exact fix_val (by rfl) (fun W hW => by go_simp; (try with_reducible rfl); (try omega))
    case he1 =>
    intro W hW
    go_wp2
    go_ret
    exact ⟨⟨false, rfl, ⟨fun h => by (cases h), fun _ => .inl (fun x hx => by have := HNO.out x hx; simpa using this)⟩⟩, hW⟩
  · have hxm := List.mem_of_getElem? hx
    have hmo : x.mo = false := by simpa using hp
    obtain ⟨o, hxo, ho1, hn1⟩ := hof x hxm
    have hjn : j < n := by have := (List.getElem?_eq_some_iff.1 hx).1; rw [ho.len] at this; exact this
    have hji : (j : Int) < (n : Int) := by omega
    obtain ⟨g, rfl, _, hgl, hcap, _, hcell⟩ := ho.at_ (by omega)
    have HC : Hid (∀ W, Below w.heap.size w W → W.cell? ⟨g, j * 9, none⟩ = some (.int .u32 (x.sr : Nat)) ∧ W.cell? ⟨g, j * 9 + 1, none⟩ = some (.int .u32 (x.ds : Nat)) ∧ W.cell? ⟨g, j * 9 + 2, none⟩ = some (.int .u8 (x.pr : Nat)) ∧ W.cell? ⟨g, j * 9 + 3, none⟩ = some (.int .u8 (x.tt : Nat)) ∧ W.cell? ⟨g, j * 9 + 4, none⟩ = some (.int .u16 (x.id : Nat)) ∧ W.cell? ⟨g, j * 9 + 5, none⟩ = some (.bool x.dn) ∧ W.cell? ⟨g, j * 9 + 6, none⟩ = some (.bool x.mo) ∧ W.cell? ⟨g, j * 9 + 7, none⟩ = some (.int .i64 (o : Nat)) ∧ W.cell? ⟨g, j * 9 + 8, none⟩ = some (.slice x.a x.n x.c)) := by
      show ∀ _, _
      intro W hW
      have hc := fun i u (hu : x.cells[i]? = some u) => (hW.cell (p := ⟨g, j * 9 + i, none⟩) hgl).trans (hcell j x hx i u hu)
      rw [← hxo]
      exact ⟨hc 0 _ rfl, hc 1 _ rfl, hc 2 _ rfl, hc 3 _ rfl, hc 4 _ rfl, hc 5 _ rfl, hc 6 _ rfl, hc 7 _ rfl, hc 8 _ rfl⟩
    have hE : ∀ W, Calls Try.prog 28 #[.agg #[.int .u32 (x.sr : Nat), .int .u32 (x.ds : Nat), .int .u8 (x.pr : Nat), .int .u8 (x.tt : Nat), .int .u16 (x.id : Nat), .bool x.dn, .bool x.mo, .int .i64 (o : Nat), .slice x.a x.n x.c]] W fun e w' => e = .returned (.int .i64 ((o + x.n : Nat) : Int)) ∧ Below W.heap.size W w' := fun W => end_any x.sr x.ds x.pr x.tt x.id x.dn x.mo o x.a x.n x.c W ho1 (by omega)
    have HX := (show Hid _ from hxo)
    clear hcell hof hxo hp
    by_cases hq : SU = o + x.n
    · have hqi : ((SU : Nat) : Int) = ((o + x.n : Nat) : Int) := by omega
      have HQ := (show Hid _ from hq)
      clear hq
      refine wp_region_fixW mixedX (fun W => Below w.heap.size w W) [(6, .int .i64 (j : Nat)), (7, .bool true), (8, .bool true), (9, .slice (some ⟨g, 0, none⟩) n c), (10, .int .i64 (SU : Nat)), (11, .slice (some ⟨g, 0, none⟩) n c), (12, .int .i64 (j : Nat)), (13, .pointer (some ⟨g, j * 9, none⟩)), (14, .agg #[.int .u32 (x.sr : Nat), .int .u32 (x.ds : Nat), .int .u8 (x.pr : Nat), .int .u8 (x.tt : Nat), .int .u16 (x.id : Nat), .bool x.dn, .bool x.mo, .int .i64 (o : Nat), .slice x.a x.n x.c]), (15, .int .i64 ((o + x.n : Nat) : Int)), (16, .bool true), (17, .bool true), (2, .bool true)] ?Z2 ?hZ2 (by kernel_rfl) (by kernel_rfl) (by kernel_rfl) (by kernel_rfl) ?h02 ?hops2 ?he2
      case hZ2 => simp only [List.foldl_cons, List.foldl_nil, List.setIfInBounds_toArray, List.set_cons_zero, List.set_cons_succ]; rfl
      case h02 => exact b1d
      case hops2 =>
        refine ⟨?_, ?_, ?_, ?_, ?_, ?_, ?_, ?_, ?_, ?_, ?_, ?_, ?_, trivial⟩
        · exact fix_val (by rfl) (fun W hW => by obtain ⟨k0, k1, k2, k3, k4, k5, k6, k7, k8⟩ := HC.out W hW; go_simp; (try with_reducible rfl); (try omega))
        · exact fix_val (by rfl) (fun W hW => by obtain ⟨k0, k1, k2, k3, k4, k5, k6, k7, k8⟩ := HC.out W hW; go_simp; (try with_reducible rfl); (try omega))
        · exact fix_val (by rfl) (fun W hW => by obtain ⟨k0, k1, k2, k3, k4, k5, k6, k7, k8⟩ := HC.out W hW; go_simp; (try with_reducible rfl); (try omega))
        · exact fix_val (by rfl) (fun W hW => by obtain ⟨k0, k1, k2, k3, k4, k5, k6, k7, k8⟩ := HC.out W hW; go_simp; (try with_reducible rfl); (try omega))
        · exact fix_call (vs := [.slice (some ⟨g, 0, none⟩) n c]) (by rfl) rfl (by rfl) Try.func21 (by rfl) (by rfl) (fun W hW => by refine (hby W hW).mono ?_; rintro e W2 ⟨rfl, b2⟩; exact ⟨rfl, hW.trans (b2.mono hW.size)⟩)
        · exact fix_val (by rfl) (fun W hW => by obtain ⟨k0, k1, k2, k3, k4, k5, k6, k7, k8⟩ := HC.out W hW; go_simp; (try with_reducible rfl); (try omega))
        · exact fix_val (by rfl) (fun W hW => by obtain ⟨k0, k1, k2, k3, k4, k5, k6, k7, k8⟩ := HC.out W hW; go_simp; (try with_reducible rfl); (try omega))
        · exact fix_val (by rfl) (fun W hW => by obtain ⟨k0, k1, k2, k3, k4, k5, k6, k7, k8⟩ := HC.out W hW; go_simp; (try with_reducible rfl); (try omega))
        · exact fix_val (by rfl) (fun W hW => by obtain ⟨k0, k1, k2, k3, k4, k5, k6, k7, k8⟩ := HC.out W hW; go_simp; (try with_reducible rfl); (try omega))
        · exact fix_call (vs := [.agg #[.int .u32 (x.sr : Nat), .int .u32 (x.ds : Nat), .int .u8 (x.pr : Nat), .int .u8 (x.tt : Nat), .int .u16 (x.id : Nat), .bool x.dn, .bool x.mo, .int .i64 (o : Nat), .slice x.a x.n x.c]]) (by rfl) rfl (by rfl) Try.func28 (by rfl) (by rfl) (fun W hW => by refine (hE W).mono ?_; rintro e W2 ⟨rfl, b2⟩; exact ⟨rfl, hW.trans (b2.mono hW.size)⟩)
        · exact fix_val (by rfl) (fun W hW => by obtain ⟨k0, k1, k2, k3, k4, k5, k6, k7, k8⟩ := HC.out W hW; go_simp; (try with_reducible rfl); (try omega))
        · exact fix_val (by rfl) (fun W hW => by obtain ⟨k0, k1, k2, k3, k4, k5, k6, k7, k8⟩ := HC.out W hW; go_simp; (try with_reducible rfl); (try omega))
        · exact fix_val (by rfl) (fun W hW => by obtain ⟨k0, k1, k2, k3, k4, k5, k6, k7, k8⟩ := HC.out W hW; go_simp; (try with_reducible rfl); (try omega))
      case he2 =>
      intro W hW
      have HR : Hid (WholeP ts true) := ⟨fun _ => ⟨x, hxm, hmo, by rw [HX.out, ← HSU.out, HQ.out]; simp⟩, fun h => by cases h⟩
      clear hqi
      go_wp2
      go_ret
      exact ⟨⟨true, rfl, HR.out⟩, hW⟩
    · have hqi : ¬ ((SU : Nat) : Int) = ((o + x.n : Nat) : Int) := by omega
      refine wp_region_fixW mixedX (fun W => Below w.heap.size w W) [(6, .int .i64 (j : Nat)), (7, .bool true), (8, .bool true), (9, .slice (some ⟨g, 0, none⟩) n c), (10, .int .i64 (SU : Nat)), (11, .slice (some ⟨g, 0, none⟩) n c), (12, .int .i64 (j : Nat)), (13, .pointer (some ⟨g, j * 9, none⟩)), (14, .agg #[.int .u32 (x.sr : Nat), .int .u32 (x.ds : Nat), .int .u8 (x.pr : Nat), .int .u8 (x.tt : Nat), .int .u16 (x.id : Nat), .bool x.dn, .bool x.mo, .int .i64 (o : Nat), .slice x.a x.n x.c]), (15, .int .i64 ((o + x.n : Nat) : Int)), (16, .bool false), (17, .bool false), (2, .bool false)] ?Z3 ?hZ3 (by kernel_rfl) (by kernel_rfl) (by kernel_rfl) (by kernel_rfl) ?h03 ?hops3 ?he3
      case hZ3 => simp only [List.foldl_cons, List.foldl_nil, List.setIfInBounds_toArray, List.set_cons_zero, List.set_cons_succ]; rfl
      case h03 => exact b1d
      case hops3 =>
        refine ⟨?_, ?_, ?_, ?_, ?_, ?_, ?_, ?_, ?_, ?_, ?_, ?_, ?_, trivial⟩
        · exact fix_val (by rfl) (fun W hW => by obtain ⟨k0, k1, k2, k3, k4, k5, k6, k7, k8⟩ := HC.out W hW; go_simp; (try with_reducible rfl); (try omega))
        · exact fix_val (by rfl) (fun W hW => by obtain ⟨k0, k1, k2, k3, k4, k5, k6, k7, k8⟩ := HC.out W hW; go_simp; (try with_reducible rfl); (try omega))
        · exact fix_val (by rfl) (fun W hW => by obtain ⟨k0, k1, k2, k3, k4, k5, k6, k7, k8⟩ := HC.out W hW; go_simp; (try with_reducible rfl); (try omega))
        · exact fix_val (by rfl) (fun W hW => by obtain ⟨k0, k1, k2, k3, k4, k5, k6, k7, k8⟩ := HC.out W hW; go_simp; (try with_reducible rfl); (try omega))
        · exact fix_call (vs := [.slice (some ⟨g, 0, none⟩) n c]) (by rfl) rfl (by rfl) Try.func21 (by rfl) (by rfl) (fun W hW => by refine (hby W hW).mono ?_; rintro e W2 ⟨rfl, b2⟩; exact ⟨rfl, hW.trans (b2.mono hW.size)⟩)
        · exact fix_val (by rfl) (fun W hW => by obtain ⟨k0, k1, k2, k3, k4, k5, k6, k7, k8⟩ := HC.out W hW; go_simp; (try with_reducible rfl); (try omega))
        · exact fix_val (by rfl) (fun W hW => by obtain ⟨k0, k1, k2, k3, k4, k5, k6, k7, k8⟩ := HC.out W hW; go_simp; (try with_reducible rfl); (try omega))
        · exact fix_val (by rfl) (fun W hW => by obtain ⟨k0, k1, k2, k3, k4, k5, k6, k7, k8⟩ := HC.out W hW; go_simp; (try with_reducible rfl); (try omega))
        · exact fix_val (by rfl) (fun W hW => by obtain ⟨k0, k1, k2, k3, k4, k5, k6, k7, k8⟩ := HC.out W hW; go_simp; (try with_reducible rfl); (try omega))
        · exact fix_call (vs := [.agg #[.int .u32 (x.sr : Nat), .int .u32 (x.ds : Nat), .int .u8 (x.pr : Nat), .int .u8 (x.tt : Nat), .int .u16 (x.id : Nat), .bool x.dn, .bool x.mo, .int .i64 (o : Nat), .slice x.a x.n x.c]]) (by rfl) rfl (by rfl) Try.func28 (by rfl) (by rfl) (fun W hW => by refine (hE W).mono ?_; rintro e W2 ⟨rfl, b2⟩; exact ⟨rfl, hW.trans (b2.mono hW.size)⟩)
        · exact fix_val (by rfl) (fun W hW => by obtain ⟨k0, k1, k2, k3, k4, k5, k6, k7, k8⟩ := HC.out W hW; go_simp; (try with_reducible rfl); (try omega))
        · exact fix_val (by rfl) (fun W hW => by obtain ⟨k0, k1, k2, k3, k4, k5, k6, k7, k8⟩ := HC.out W hW; go_simp; (try with_reducible rfl); (try omega))
        · exact fix_val (by rfl) (fun W hW => by obtain ⟨k0, k1, k2, k3, k4, k5, k6, k7, k8⟩ := HC.out W hW; go_simp; (try with_reducible rfl); (try omega))
      case he3 =>
      intro W hW
      have HR : Hid (WholeP ts false) := ⟨fun h => by (cases h), fun _ => .inr ⟨x, hxm, hmo, by rw [HX.out, ← HSU.out]; omega⟩⟩
      clear hqi hq
      go_wp2
      go_ret
      exact ⟨⟨false, rfl, HR.out⟩, hW⟩
end Go.Proofs.Ytnbagloifbllbaa
