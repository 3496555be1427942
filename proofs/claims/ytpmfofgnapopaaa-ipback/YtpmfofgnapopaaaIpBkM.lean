/- A packet's bytes are read as the packet: mathematics. -/
import Derived.Test.YtpmfofgnapopaaaIpTk0
namespace Go.Proofs.Ytpmfofgnapopaaa
open Go.RowKit
theorem fl_bits (dn mo : Bool) (o : Nat) (h : o ≤ 65528) (h8 : o % 8 = 0) : flV dn mo o / 32768 % 2 = 0 ∧ decide (flV dn mo o / 16384 % 2 = 1) = dn ∧ decide (flV dn mo o / 8192 % 2 = 1) = mo ∧ flV dn mo o % 8192 * 8 = o := by
  unfold flV
  cases dn <;> cases mo <;> simp <;> omega
theorem hd_nums (sr ds pr tt id fl n : Nat) (T : List Nat) (hsr : sr < 4294967296) (hds : ds < 4294967296) (hpr : pr < 256) (htt : tt < 256) (hid : id < 65536) (hfl : fl < 65536) (hn : n ≤ 65515) :
    numV (ipHd sr ds pr tt id fl n ++ T) 0 1 = 69 ∧ numV (ipHd sr ds pr tt id fl n ++ T) 2 2 = 20 + n ∧ numV (ipHd sr ds pr tt id fl n ++ T) 4 2 = id ∧ numV (ipHd sr ds pr tt id fl n ++ T) 6 2 = fl ∧ numV (ipHd sr ds pr tt id fl n ++ T) 8 1 = tt ∧ numV (ipHd sr ds pr tt id fl n ++ T) 9 1 = pr ∧ numV (ipHd sr ds pr tt id fl n ++ T) 12 4 = sr ∧ numV (ipHd sr ds pr tt id fl n ++ T) 16 4 = ds := by
  obtain ⟨N, hN⟩ : ∃ N, N = net (ipA n id fl tt pr ++ ([0, 0] ++ ipR sr ds)) := ⟨_, rfl⟩
  have hH : ipHd sr ds pr tt id fl n = bytesB 69 1 ++ (bytesB 0 1 ++ (bytesB (20 + n) 2 ++ (bytesB id 2 ++ (bytesB fl 2 ++ (bytesB tt 1 ++ (bytesB pr 1 ++ (bytesB N 2 ++ (bytesB sr 4 ++ bytesB ds 4)))))))) := by
    unfold ipHd
    rw [← hN]
    simp [ipA, ipR, List.append_assoc]
  have e0 : numV (ipHd sr ds pr tt id fl n ++ T) ((0 : Nat) : Int) ((1 : Nat) : Int) = 69 := by
    have := numV_at ([]) 69 1 (bytesB 0 1 ++ (bytesB (20 + n) 2 ++ (bytesB id 2 ++ (bytesB fl 2 ++ (bytesB tt 1 ++ (bytesB pr 1 ++ (bytesB N 2 ++ (bytesB sr 4 ++ (bytesB ds 4 ++ T))))))))) (by omega) (by omega) (by decide) 0 (by rfl)
    rw [hH]
    simpa [List.append_assoc] using this
  have e2 : numV (ipHd sr ds pr tt id fl n ++ T) ((2 : Nat) : Int) ((2 : Nat) : Int) = (20 + n) := by
    have := numV_at (bytesB 69 1 ++ bytesB 0 1) (20 + n) 2 (bytesB id 2 ++ (bytesB fl 2 ++ (bytesB tt 1 ++ (bytesB pr 1 ++ (bytesB N 2 ++ (bytesB sr 4 ++ (bytesB ds 4 ++ T))))))) (by omega) (by omega) (by show 20 + n < 65536; omega) 2 (by simp [bytesB_len])
    rw [hH]
    simpa [List.append_assoc] using this
  have e4 : numV (ipHd sr ds pr tt id fl n ++ T) ((4 : Nat) : Int) ((2 : Nat) : Int) = id := by
    have := numV_at (bytesB 69 1 ++ bytesB 0 1 ++ bytesB (20 + n) 2) id 2 (bytesB fl 2 ++ (bytesB tt 1 ++ (bytesB pr 1 ++ (bytesB N 2 ++ (bytesB sr 4 ++ (bytesB ds 4 ++ T)))))) (by omega) (by omega) (by show id < 65536; omega) 4 (by simp [bytesB_len])
    rw [hH]
    simpa [List.append_assoc] using this
  have e6 : numV (ipHd sr ds pr tt id fl n ++ T) ((6 : Nat) : Int) ((2 : Nat) : Int) = fl := by
    have := numV_at (bytesB 69 1 ++ bytesB 0 1 ++ bytesB (20 + n) 2 ++ bytesB id 2) fl 2 (bytesB tt 1 ++ (bytesB pr 1 ++ (bytesB N 2 ++ (bytesB sr 4 ++ (bytesB ds 4 ++ T))))) (by omega) (by omega) (by show fl < 65536; omega) 6 (by simp [bytesB_len])
    rw [hH]
    simpa [List.append_assoc] using this
  have e8 : numV (ipHd sr ds pr tt id fl n ++ T) ((8 : Nat) : Int) ((1 : Nat) : Int) = tt := by
    have := numV_at (bytesB 69 1 ++ bytesB 0 1 ++ bytesB (20 + n) 2 ++ bytesB id 2 ++ bytesB fl 2) tt 1 (bytesB pr 1 ++ (bytesB N 2 ++ (bytesB sr 4 ++ (bytesB ds 4 ++ T)))) (by omega) (by omega) (by show tt < 256; omega) 8 (by simp [bytesB_len])
    rw [hH]
    simpa [List.append_assoc] using this
  have e9 : numV (ipHd sr ds pr tt id fl n ++ T) ((9 : Nat) : Int) ((1 : Nat) : Int) = pr := by
    have := numV_at (bytesB 69 1 ++ bytesB 0 1 ++ bytesB (20 + n) 2 ++ bytesB id 2 ++ bytesB fl 2 ++ bytesB tt 1) pr 1 (bytesB N 2 ++ (bytesB sr 4 ++ (bytesB ds 4 ++ T))) (by omega) (by omega) (by show pr < 256; omega) 9 (by simp [bytesB_len])
    rw [hH]
    simpa [List.append_assoc] using this
  have e12 : numV (ipHd sr ds pr tt id fl n ++ T) ((12 : Nat) : Int) ((4 : Nat) : Int) = sr := by
    have := numV_at (bytesB 69 1 ++ bytesB 0 1 ++ bytesB (20 + n) 2 ++ bytesB id 2 ++ bytesB fl 2 ++ bytesB tt 1 ++ bytesB pr 1 ++ bytesB N 2) sr 4 (bytesB ds 4 ++ T) (by omega) (by omega) (by show sr < 4294967296; omega) 12 (by simp [bytesB_len])
    rw [hH]
    simpa [List.append_assoc] using this
  have e16 : numV (ipHd sr ds pr tt id fl n ++ T) ((16 : Nat) : Int) ((4 : Nat) : Int) = ds := by
    have := numV_at (bytesB 69 1 ++ bytesB 0 1 ++ bytesB (20 + n) 2 ++ bytesB id 2 ++ bytesB fl 2 ++ bytesB tt 1 ++ bytesB pr 1 ++ bytesB N 2 ++ bytesB sr 4) ds 4 (T) (by omega) (by omega) (by show ds < 4294967296; omega) 16 (by simp [bytesB_len])
    rw [hH]
    simpa [List.append_assoc] using this
  exact ⟨e0, e2, e4, e6, e8, e9, e12, e16⟩
/-- Taken, with whatever behind it, it is the packet. -/
theorem ip_back (sr ds pr tt id : Nat) (dn mo : Bool) (of : Int) (zs ys : List Nat) (hsr : sr < 4294967296) (hds : ds < 4294967296) (hpr : pr < 256) (htt : tt < 256) (hid : id < 65536) (hE : mbE mo of zs.length = 0) :
    itE (ipV sr ds pr tt id dn mo of zs ++ ys) = 0 ∧ itN (ipV sr ds pr tt id dn mo of zs ++ ys) 12 4 = sr ∧ itN (ipV sr ds pr tt id dn mo of zs ++ ys) 16 4 = ds ∧ itN (ipV sr ds pr tt id dn mo of zs ++ ys) 9 1 = pr ∧ itN (ipV sr ds pr tt id dn mo of zs ++ ys) 8 1 = tt ∧ itN (ipV sr ds pr tt id dn mo of zs ++ ys) 4 2 = id ∧ itD (ipV sr ds pr tt id dn mo of zs ++ ys) 16384 = dn ∧ itD (ipV sr ds pr tt id dn mo of zs ++ ys) 8192 = mo ∧ (itO (ipV sr ds pr tt id dn mo of zs ++ ys) : Int) = of ∧ itB (ipV sr ds pr tt id dn mo of zs ++ ys) = zs := by
  obtain ⟨q1, q2, q3, q4, q5⟩ := mbE_ok hE
  have hV : ipV sr ds pr tt id dn mo of zs ++ ys = ipHd sr ds pr tt id (flV dn mo of.toNat) zs.length ++ (zs ++ ys) := by unfold ipV; rw [if_pos hE, List.append_assoc]
  have hfl := flV_lt dn mo of.toNat (by omega)
  obtain ⟨f1, f2, f3, f4⟩ := fl_bits dn mo of.toNat (by omega) (by omega)
  obtain ⟨n0, n2, n4, n6, n8, n9, n12, n16⟩ := hd_nums sr ds pr tt id (flV dn mo of.toNat) zs.length (zs ++ ys) hsr hds hpr htt hid (by omega) (by omega)
  have hHl := ipHd_len sr ds pr tt id (flV dn mo of.toNat) zs.length
  have hHn : net (ipHd sr ds pr tt id (flV dn mo of.toNat) zs.length) = 0 := net_stamp _ (by rw [ipA_len]) _
  rw [hV]
  generalize ipHd sr ds pr tt id (flV dn mo of.toNat) zs.length = H at *
  generalize flV dn mo of.toNat = fl at *
  have hd : hdL (H ++ (zs ++ ys)) = 20 := by unfold hdL; rw [n0]
  have hlen : (H ++ (zs ++ ys)).length = 20 + (zs.length + ys.length) := by simp [hHl]
  have hln : lnE 4 20 (20 + zs.length) (20 + (zs.length + ys.length)) = 0 := by
    unfold lnE
    rw [if_neg (by omega), if_neg (by omega), if_neg (by omega), if_neg (by omega)]
  have hIE : itE (H ++ (zs ++ ys)) = 0 := by
    unfold itE
    rw [hlen, hd, n0, n2, n6, if_neg (by omega), show 69 / 16 = 4 from rfl, hln, if_neg (by simp), List.take_append_of_le_length (by omega), List.take_of_length_le (by omega), hHn, if_neg (by simp), if_neg, if_neg (by omega)]
    intro h
    rcases h with h | ⟨h, h'⟩
    · omega
    · have hm : mo = true := by rw [← f3]; exact decide_eq_true h
      have := q4 hm
      omega
  refine ⟨hIE, ?_, ?_, ?_, ?_, ?_, ?_, ?_, ?_, ?_⟩
  · unfold itN; rw [if_pos hIE]; exact n12
  · unfold itN; rw [if_pos hIE]; exact n16
  · unfold itN; rw [if_pos hIE]; exact n9
  · unfold itN; rw [if_pos hIE]; exact n8
  · unfold itN; rw [if_pos hIE]; exact n4
  · unfold itD; rw [if_pos hIE, n6]; exact f2
  · unfold itD; rw [if_pos hIE, n6]; exact f3
  · unfold itO; rw [if_pos hIE, n6]; omega
  · unfold itB
    rw [if_pos hIE, hd, n2, show 20 + zs.length - 20 = zs.length by omega, List.drop_left' hHl, List.take_left]
end Go.Proofs.Ytpmfofgnapopaaa
