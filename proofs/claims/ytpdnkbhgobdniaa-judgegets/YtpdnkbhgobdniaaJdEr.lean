/- judge does not look at where bytes lie. -/
import Derived.Test.YtpdnkbhgobdniaaJdOf
namespace Go.Proofs.Ytpdnkbhgobdniaa
open Go.RowKit Go.MapKept Go.Maps
def Mg.era (m : Mg) : Mg := ⟨m.st, m.ssn, m.pp, m.free, none, 0, 0, m.zs⟩
def Mk.era (x : Mk) : Mk := ⟨x.is, x.host, x.own, x.peer, x.mst, x.mssn, x.mpp, x.mfree, none, 0, 0, x.mdZ, x.note⟩
def Bp.era (p : Bp) : Bp := { p with rows := fun s => (p.rows s).map Mg.era }
def Cp.era (c : Cp) : Cp := fun q => (c q).era
theorem era_set (c : Cp) (q : Sd) (p : Bp) : Cp.era (c.set q p) = Cp.set (Cp.era c) q p.era := by
  funext q'
  unfold Cp.era Cp.set
  split <;> rfl
theorem era_push (p : Bp) (m : Mg) : (p.push m).era = p.era.push m.era := by
  unfold Bp.push
  by_cases h : m.free = true
  · rw [if_pos h, if_pos (show m.era.free = true from h)]
    rfl
  · rw [if_neg h, if_neg (show ¬ m.era.free = true from h)]
    unfold Bp.era
    congr 1
    funext s
    show (if s = m.st then p.rows s ++ [m] else p.rows s).map Mg.era = if s = m.st then (p.rows s).map Mg.era ++ [m.era] else (p.rows s).map Mg.era
    split <;> simp
theorem era_take (cp : Cp) (x : Mk) : takeJ (Cp.era cp) x.era = (Cp.era (takeJ cp x).1, (takeJ cp x).2) := by
  have e1 : x.era.msg = x.msg.era := rfl
  have e2 : x.era.sd = x.sd := rfl
  unfold takeJ
  rw [e1, e2, show x.era.host = x.host from rfl, show x.era.is = x.is from rfl, show x.era.mfree = x.mfree from rfl, show x.era.note = x.note from rfl]
  split
  · rfl
  · split
    · unfold sentJ
      rw [show (Cp.era cp x.sd).shuts = (cp x.sd).shuts from rfl, show (Cp.era cp x.sd).ended = (cp x.sd).ended from rfl]
      split
      · rfl
      · dsimp only
        rw [era_set, era_push]
        rfl
    · split
      · split
        · unfold gotFreeJ
          rw [show x.msg.era.cn = x.msg.cn from rfl, show (Cp.era cp (oth x.sd)).loose = (cp (oth x.sd)).loose from rfl]
          split
          · rfl
          · dsimp only
            rw [era_set]
            rfl
        · unfold gotNextJ
          rw [show x.msg.era.st = x.msg.st from rfl, show (Cp.era cp (oth x.sd)).rows x.msg.st = ((cp (oth x.sd)).rows x.msg.st).map Mg.era from rfl, show (Cp.era cp x.sd).told = (cp x.sd).told from rfl, List.getElem?_map]
          cases ((cp (oth x.sd)).rows x.msg.st)[((cp x.sd).told x.msg.st).toNat]? with
          | none => rfl
          | some y =>
            dsimp only [Option.map_some]
            rw [show alikeJ y.era x.msg.era = alikeJ y x.msg from rfl]
            split
            · dsimp only
              rw [era_set, era_set]
              rfl
            · rfl
      · split
        · unfold noticeJ
          rw [show (Cp.era cp x.sd).ended = (cp x.sd).ended from rfl, show (Cp.era cp x.sd).came = (cp x.sd).came from rfl]
          split
          · rfl
          · split
            · rfl
            · split
              · rfl
              · split
                · dsimp only
                  rw [era_set]
                  rfl
                · dsimp only
                  rw [era_set]
                  rfl
        · split
          · unfold shutJ
            rw [show (Cp.era cp x.sd).ended = (cp x.sd).ended from rfl, show (Cp.era cp x.sd).shuts = (cp x.sd).shuts from rfl]
            split
            · rfl
            · split
              · rfl
              · dsimp only
                rw [era_set]
                rfl
          · rfl
theorem era_hear (dd : List Mk) : ∀ cp, hearJ (Cp.era cp) (dd.map Mk.era) = ((hearJ cp dd).1, (hearJ cp dd).2.1, Cp.era (hearJ cp dd).2.2) := by
  induction dd with
  | nil => intro cp; rfl
  | cons x dd ih =>
    intro cp
    rw [List.map_cons, hearJ, hearJ, era_take]
    dsimp only
    split
    · rw [ih]
    · rfl
theorem era_jdg {dd dk : List Mk} (h : dd.map Mk.era = dk.map Mk.era) : (jdg dd).1 = (jdg dk).1 ∧ (jdg dd).2.1 = (jdg dk).2.1 ∧ ∀ q, owd dd q = owd dk q := by
  have e0 : Cp.era (fun _ => Bp.empty) = fun _ => Bp.empty := rfl
  have h1 := era_hear dd (fun _ => Bp.empty)
  have h2 := era_hear dk (fun _ => Bp.empty)
  rw [e0] at h1 h2
  rw [h, h2] at h1
  have a1 := congrArg Prod.fst h1
  have a2 := congrArg (fun z => z.2.1) h1
  have a3 := congrArg (fun z => z.2.2) h1
  dsimp only at a1 a2 a3
  refine ⟨a1.symm, a2.symm, fun q => ?_⟩
  unfold owd jdg
  rw [a2]
  have a4 : ((hearJ (fun _ => Bp.empty) dk).2.2 q).owed = ((hearJ (fun _ => Bp.empty) dd).2.2 q).owed := by
    have h9 := congrArg Bp.owed (congrFun a3 q)
    exact h9
  rw [a4]
end Go.Proofs.Ytpdnkbhgobdniaa
