/-
  The law FnSeal: it returns true, whatever bytes it draws from: a contract over the seat's program (in a world in which errors.errorType holds what errors.As wants).
-/
import Derived.Test.YtcjclioockjfhaaDoorDrSeal
import Derived.Test.YtcjclioockjfhaaDoorSealOne
import Derived.Test.YtcjclioockjfhaaDoorSealS
import Derived.Test.YtcjclioockjfhaaDoorUnsealI
import Derived.Test.YtcjclioockjfhaaDoorSpCrcMore
import Derived.Laws.IdiomStrings
import Derived.Deep.RegionWith
namespace Go.Proofs.YtcjclioockjfhaaDoor
open Go.RowKit Crc Join Seal AsErr Unseal

/-- A row of bytes that may be written. -/
structure BRow (w : World) (g : Nat) (l : List UInt8) : Prop where
  lt : g < w.heap.size
  cell : ∀ j (hj : j < l.length), w.cell? ⟨g, j, none⟩ = some (.int .u8 (l[j].toNat : Int))
  free : ∀ j, j < l.length → w.frozen? ⟨g, j, none⟩ = false
theorem BRow.made (w : World) (s : ByteArray) (e : TypeId) (cap : Nat) : BRow (w.drew.alloc (.cells (bytesRow s cap) e ((bytesRow s cap).size, (bytesRow s cap).size + 1))) w.heap.size s.data.toList := by
  have hh : (w.drew.alloc (.cells (bytesRow s cap) e ((bytesRow s cap).size, (bytesRow s cap).size + 1))).heap[w.heap.size]? = some (.cells (bytesRow s cap) e ((bytesRow s cap).size, (bytesRow s cap).size + 1)) := heap_alloc_new w.drew _
  have hsz : s.data.toList.length ≤ (bytesRow s cap).size := by simp [bytesRow]
  refine ⟨lt_heap hh, fun j hj => ?_, fun j hj => ?_⟩
  · simp only [World.cell?, hh]
    rw [bytesRow_at s cap j (by simpa using hj)]
    simp
  · simp only [World.frozen?, hh]
    simp
    omega
theorem BRow.below {w w' : World} {g : Nat} {l : List UInt8} (h : BRow w g l) (hb : Below w.heap.size w w') : BRow w' g l :=
  ⟨Nat.lt_of_lt_of_le h.lt hb.size, fun j hj => by rw [hb.cell (p := ⟨g, j, none⟩) h.lt]; exact h.cell j hj, fun j hj => by rw [World.frozen?_of_block (hb.block g h.lt)]; exact h.free j hj⟩
theorem Bs.stays {w w' : World} {V : Value} {n : Nat} (h : Bs w V n) (hb : Below w.heap.size w w') : Bs w' V n := by
  obtain ⟨a, c, rfl, hn, h⟩ := h
  refine ⟨a, c, rfl, hn, fun i hi => ?_⟩
  obtain ⟨g, o, x, rfl, hg1, hc, hx⟩ := h i hi
  exact ⟨g, o, x, rfl, Nat.lt_of_lt_of_le hg1 hb.size, by rw [hb.cell (p := ⟨g, o + i, none⟩) hg1]; exact hc, hx⟩
theorem full_beq {s : ByteArray} (h : 0 < s.size) : ¬ s.toList = [] := by
  intro e
  rw [ByteArray.toList_eq] at e
  have h2 : s.data.toList.length = s.size := rfl
  rw [e] at h2
  simp at h2
  omega
theorem full_is {s : ByteArray} (h : 0 < s.size) : s.toList.isEmpty = false := by
  have := full_beq h
  cases hs : s.toList with
  | nil => exact absurd hs this
  | cons a l => rfl
/-- What errors.As wants, and all that was there. -/
structure Gd (w wr : World) : Prop where
  gd : wr.cell? ⟨0, 0, none⟩ = some gErr
  bel : Below w.heap.size w wr
theorem Gd.next {w w1 w2 : World} (h : Gd w w1) (hb : Below w1.heap.size w1 w2) : Gd w w2 :=
  ⟨by rw [hb.cell (p := ⟨0, 0, none⟩) (g_lt h.gd)]; exact h.gd, h.bel.trans (hb.mono h.bel.size)⟩
theorem Gd.of {w w' : World} (hg : w.cell? ⟨0, 0, none⟩ = some gErr) (h : Below w.heap.size w w') : Gd w w' :=
  ⟨by rw [h.cell (p := ⟨0, 0, none⟩) (g_lt hg)]; exact hg, h⟩
/-- A byte turned by what is not nought is another byte. -/
theorem xor_turn (X : UInt8) (q : Int) (h0 : 0 ≤ q) (h1 : q < 255) : ∃ B : UInt8, bits .xor .u8 (X.toNat : Int) (1 + q) = (B.toNat : Int) ∧ B ≠ X := by
  have hX : X.toNat < 256 := UInt8.toNat_lt X
  obtain ⟨m, rfl⟩ := Int.eq_ofNat_of_zero_le h0
  have hm : 1 + m < 256 := by omega
  have hlt : X.toNat ^^^ (1 + m) < 2 ^ 8 := Nat.xor_lt_two_pow hX hm
  have hB : (UInt8.ofNat (X.toNat ^^^ (1 + m))).toNat = X.toNat ^^^ (1 + m) := by rw [UInt8.toNat_ofNat']; exact Nat.mod_eq_of_lt hlt
  refine ⟨UInt8.ofNat (X.toNat ^^^ (1 + m)), ?_, fun e => ?_⟩
  · rw [hB, show (1 + (m : Int)) = ((1 + m : Nat) : Int) by omega]
    exact u8_xor_nat _ _ hX hm
  · have h2 := congrArg UInt8.toNat e
    rw [hB] at h2
    have h3 := congrArg (X.toNat ^^^ ·) h2
    simp only [← Nat.xor_assoc, Nat.xor_self, Nat.zero_xor] at h3
    omega
theorem crc_goes (t u : ByteArray) (h : (t.size : Int) + (u.size : Int) ≤ 8000) : crcM 0 (t ++ u) = crcM (crcM 0 t) u := by
  have ht : crcM 0 t = crcL 0 t.data.toList := if_pos ⟨by omega, by decide, by decide⟩
  have hi := (crcL_in 0 t.data.toList).1
  unfold InW at hi
  have h1 : crcM 0 (t ++ u) = crcL 0 (t ++ u).data.toList := if_pos ⟨by rw [ByteArray.size_append]; omega, by decide, by decide⟩
  have h2 : crcM (crcL 0 t.data.toList) u = crcL (crcL 0 t.data.toList) u.data.toList := if_pos ⟨by omega, by omega, by omega⟩
  rw [h1, ht, h2, crc_on]
  congr 1
theorem BRow.set {w : World} {g : Nat} {l : List UInt8} (h : BRow w g l) (k : Nat) (B : UInt8) (hk : k < l.length) : BRow (w.setCell ⟨g, k, none⟩ (.int .u8 (B.toNat : Int))).drew g (l.set k B) := by
  refine ⟨by show g < (w.setCell _ _).heap.size; simpa [World.setCell] using h.lt, fun j hj => ?_, fun j hj => ?_⟩
  · rw [List.length_set] at hj
    show (w.setCell ⟨g, k, none⟩ _).cell? ⟨g, j, none⟩ = _
    by_cases hjk : k = j
    · subst hjk
      rw [List.getElem_set_self]
      exact World.cell?_setCell_same' w _ _ (by rw [h.cell k hk]; rfl)
    · rw [List.getElem_set_ne hjk]
      rw [World.cell?_setCell_other (h := by intro e; injection e with _ e2; exact hjk e2)]
      exact h.cell j hj
  · rw [List.length_set] at hj
    show (w.setCell ⟨g, k, none⟩ _).frozen? ⟨g, j, none⟩ = _
    rw [World.frozen?_setCell]
    exact h.free j hj
theorem BRow.text {w : World} {g n : Nat} {l : List UInt8} (h : BRow w g l) (cap : Nat) (hn : l.length = n) : (convert 22 9 (.slice (some ⟨g, 0, none⟩) n cap)).run Tryd.prog w = .ok (.string ⟨l.toArray⟩) w := by
  subst hn
  refine run_convert_bytes_back w 22 9 5 ⟨g, 0, none⟩ cap l Tryd.underlying22 Tryd.underlying5 Tryd.underlying9 fun j hj => ?_
  rw [Addr.add_lit, Nat.zero_add]
  exact h.cell j hj
theorem fnSeal_big (a1 a2 : Option Addr) (n1 n2 c1 c2 : Nat) (w : World) (hb : ¬ ((n1 : Int) ≤ 1048576 ∧ (n2 : Int) ≤ 1048576)) :
    Calls Tryd.prog 4 #[.slice a1 n1 c1, .slice a2 n2 c2] w fun e w' => e = .returned (.bool true) ∧ Below w.heap.size w w' := by
  by_cases h1 : (n1 : Int) ≤ 1048576
  · have h2 : (1048576 : Int) < n2 := by omega
    clear hb
    go_enter Tryd.func4, Tryd.ntmps4
    go_wp2
    go_ret
    exact ⟨rfl, Below.refl _ _⟩
  · have h1 : (1048576 : Int) < n1 := by omega
    clear hb
    go_enter Tryd.func4, Tryd.ntmps4
    go_wp2
    go_ret
    exact ⟨rfl, Below.refl _ _⟩

set_option maxHeartbeats 4000000 in
set_option maxRecDepth 100000 in
theorem fnSeal_in (a1 a2 : Option Addr) (n1 n2 c1 c2 : Nat) (w : World) (h1 : (n1 : Int) ≤ 1048576) (h2 : (n2 : Int) ≤ 1048576) (hA : Bs w (.slice a1 n1 c1) n1) (hM : Bs w (.slice a2 n2 c2) n2) (hg : w.cell? ⟨0, 0, none⟩ = some gErr) :
    Calls Tryd.prog 4 #[.slice a1 n1 c1, .slice a2 n2 c2] w fun e w' => e = .returned (.bool true) ∧ Below w.heap.size w w' := by
  have cD := hid (drawSeal_any (.slice a1 n1 c1) n1 w hA)
  have cU := hid (fun w h => drawCrc_any (.slice a2 n2 c2) n2 w h)
  have cL := hid (fun k most w h hk hm hm2 => lwAt_any (.slice a2 n2 c2) n2 k most w h hk hm hm2)
  have HM := hid hM
  have G0 : Hid (Gd w w) := ⟨hg, Below.refl _ _⟩
  have HG := hid hg
  clear hA hM hg
  go_enter Tryd.func4, Tryd.ntmps4
  go_wp2_with fail
  refine cD.out.mono ?_
  rintro e w1 ⟨t, rfl, hts, hb1⟩
  have G1 := hid (G0.out.next hb1)
  clear hb1 G0 cD
  by_cases ht : (t.size : Int) ≤ 7996
  · have cP := hid (fun w => implSeal_any t w ht)
    have cQ := hid (fun w => specSeal_any t w ht)
    have hS0 : 0 < (sealS t).size := by rw [sealS_size]; omega
    have hS8 : ((sealS t).size : Int) ≤ 8000 := by rw [sealS_size]; omega
    have hSb := full_beq hS0
    have hSi := full_is hS0
    have cOk : Hid (∀ W, Calls Tryd.prog 17 #[.string (sealS t)] W fun e w' => e = .returned (.agg #[.string t, .int .i64 0, .int .i64 0]) ∧ Below W.heap.size W w') := by
      show ∀ W, _
      intro W
      have h := seal_ok t
      have := implUnseal_text (sealS t) (innerS (sealS t)) W (fun W => unsealed_yes (sealS t) W hS8 (by rw [sealS_size]; omega) h.2)
      rw [h.1] at this
      exact this
    have cNo : Hid (∀ (k : Nat) (B : UInt8) (W : World), Gd w W → k < (sealS t).size → (sealS t).data.toList[k]? ≠ some B → Calls Tryd.prog 17 #[.string ⟨((sealS t).data.toList.set k B).toArray⟩] W fun e w' => e = .returned (.agg #[.string ⟨#[]⟩, .int .i64 0, .int .i64 5]) ∧ Below W.heap.size W w') := by
      show ∀ k B W, _
      intro k B W hG hk hB
      have hz : (⟨((sealS t).data.toList.set k B).toArray⟩ : ByteArray).size = t.size + 4 := by
        rw [← sealS_size]
        show ((sealS t).data.toList.set k B).toArray.size = _
        simp
      exact implUnseal_code _ 5 W hG.gd (fun W => unsealed_sum _ W (by rw [hz]; omega) (by rw [hz]; omega) (seal_turned t _ k B hk hB rfl))
    generalize sealS t = S at *
    go_wp2_with fail
    refine (cP.out _).mono ?_
    rintro e w2 ⟨rfl, hb2⟩
    have G2 := hid (G1.out.next hb2)
    clear hb2 G1 cP
    go_wp2_with fail
    refine (cQ.out _).mono ?_
    rintro e w3 ⟨rfl, hb3⟩
    have G3 := hid (G2.out.next hb3)
    clear hb3 G2 cQ
    have hcv := run_bytes_of_string (P := Tryd.prog) w3 9 22 5 S Tryd.underlying9 Tryd.underlying22 Tryd.underlying5
    have HR4 := hid (BRow.made w3 S 5 (grownCap w3 S.size 0 5))
    have hb4 : Below w3.heap.size w3 (w3.drew.alloc (.cells (bytesRow S (grownCap w3 S.size 0 5)) 5 ((bytesRow S (grownCap w3 S.size 0 5)).size, (bytesRow S (grownCap w3 S.size 0 5)).size + 1))) := ((Below.refl _ _).drew).alloc (Nat.le_refl _) _
    have G4 := hid (G3.out.next hb4)
    have hg3 := G3.out.bel.size
    clear hb4
    generalize w3.drew.alloc (.cells (bytesRow S (grownCap w3 S.size 0 5)) 5 ((bytesRow S (grownCap w3 S.size 0 5)).size, (bytesRow S (grownCap w3 S.size 0 5)).size + 1)) = w4 at *
    generalize grownCap w3 S.size 0 5 = cap at *
    go_wp2_with fail
    refine (cL.out 0 (S.size : Int) _ (HM.out.stays G4.out.bel) (by decide) (by omega) (by omega)).mono ?_
    rintro e w5 ⟨r, rfl, r0, r1, rfl⟩
    obtain ⟨k, rfl⟩ := Int.eq_ofNat_of_zero_le r0
    have hk : k < S.data.toList.length := by show k < S.size; omega
    have hc := HR4.out.cell k hk
    have hf := HR4.out.free k hk
    have hX : S.data.toList[k].toNat < 256 := UInt8.toNat_lt _
    have hXe : S.data.toList[k]? = some S.data.toList[k] := List.getElem?_eq_getElem hk
    have cL1 := hid (cL.out 1 255 w5.drew (HM.out.stays (G4.out.bel.drew)) (by decide) (by decide) (by decide))
    clear cL hcv
    generalize S.data.toList[k] = X at *
    go_wp2_with fail
    go_region_with (first | (go_at_call 16; refine cL1.out.mono ?_; rintro e w6 ⟨q, rfl, q0, q1, rfl⟩; have hw1 : IntKind.i64.wrap (1 + q) = 1 + q := (by simp [IntKind.wrap, IntKind.bits, IntKind.signed]; omega); have hw2 : IntKind.u8.wrap (1 + q) = 1 + q := (by simp [IntKind.wrap, IntKind.bits, IntKind.signed]; omega)))
    all_goals
      obtain ⟨B, hBe, hBn⟩ := xor_turn X q q0 q1
      rw [hBe]
      have HR6 := hid (HR4.out.set k B hk)
      have G6 := hid (Gd.of HG.out ((G4.out.bel.setCell (p := ⟨w3.heap.size, k, none⟩) hg3 (.int .u8 (B.toNat : Int))).drew))
      have cB := hid (fun W hG => cNo.out k B W hG hk (by rw [hXe]; exact fun h => hBn (Option.some.inj h).symm))
      clear hBe hc hf cL1 hw1 hw2 q0 q1 HR4 G4 G3
      generalize (w5.setCell ⟨w3.heap.size, k, none⟩ (.int .u8 (B.toNat : Int))).drew = w6 at *
      generalize w3.heap.size = g at *
      go_wp2_with fail
      refine (cOk.out _).mono ?_
      rintro e w7 ⟨rfl, hb7⟩
      have hcv2 := (HR6.out.below hb7).text cap (n := S.size) (by rw [List.length_set]; rfl)
      have G7 := hid (G6.out.next hb7)
      clear hb7 HR6 G6 cOk
      generalize (⟨(S.data.toList.set k B).toArray⟩ : ByteArray) = Z at *
      go_wp2_with fail
      refine (cB.out _ G7.out).mono ?_
      rintro e w8 ⟨rfl, hb8⟩
      have GX := hid (G7.out.next hb8)
      have hfd : ∀ w : World, (Instr.field 31 (.agg #[.string ⟨#[]⟩, .int .i64 0, .int .i64 5]) 2).run Tryd.prog w = .ok (.int .i64 5) w := fun _ => by kernel_rfl
      clear hb8 G7 cB hcv2
      go_wp2_with fail
      refine (cU.out _ (HM.out.stays GX.out.bel)).mono ?_
      rintro e wa ⟨crc, u, rfl, hus, hba⟩
      have Ga := hid (GX.out.next hba)
      clear hba GX
      by_cases hz : (t.size : Int) + (u.size : Int) ≤ 8000
      · have cI := hid (fun w => implCrcMore_any crc u w)
        have cJ := hid (fun w => specCrcMore_any crc u w (by unfold maxLen; omega))
        have cT := hid (fun w => implCrc_any t w)
        have cM := hid (fun w => implCrcMore_any (crcM 0 t) u w)
        have cV := hid (fun w => implCrc_any (t ++ u) w)
        rw [crc_goes t u hz] at cV
        generalize crcM (crcM 0 t) u = C2 at *
        generalize crcM 0 t = C0 at *
        generalize crcM crc u = C1 at *
        go_wp2_with fail
        refine (cI.out _).mono ?_
        rintro e wb ⟨rfl, rfl⟩
        go_wp2_with fail
        refine (cJ.out _).mono ?_
        rintro e wc ⟨rfl, rfl⟩
        go_wp2_with fail
        refine (cT.out _).mono ?_
        rintro e wd ⟨rfl, rfl⟩
        go_wp2_with fail
        refine (cM.out _).mono ?_
        rintro e we ⟨rfl, rfl⟩
        go_wp2_with fail
        refine (cV.out _).mono ?_
        rintro e wf ⟨rfl, rfl⟩
        clear cI cJ cT cM cV
        go_wp2
        go_ret
        exact ⟨rfl, Ga.out.bel⟩
      · have hz' : (8000 : Int) < (t.size : Int) + (u.size : Int) := by omega
        clear hz
        go_wp2
        go_ret
        exact ⟨rfl, Ga.out.bel⟩
  · have cP := hid (fun w => implSeal_no t w ht)
    have cQ := hid (fun w => specSeal_no t w ht)
    clear cL ht
    go_wp2_with fail
    refine (cP.out _).mono ?_
    rintro e w2 ⟨rfl, hb2⟩
    have G2 := hid (G1.out.next hb2)
    clear hb2 G1 cP
    go_wp2_with fail
    refine (cQ.out _).mono ?_
    rintro e w3 ⟨rfl, hb3⟩
    have GX := hid (G2.out.next hb3)
    clear hb3 G2 cQ
    go_wp2_with fail
    refine (cU.out _ (HM.out.stays GX.out.bel)).mono ?_
    rintro e wa ⟨crc, u, rfl, hus, hba⟩
    have Ga := hid (GX.out.next hba)
    clear hba GX
    by_cases hz : (t.size : Int) + (u.size : Int) ≤ 8000
    · have cI := hid (fun w => implCrcMore_any crc u w)
      have cJ := hid (fun w => specCrcMore_any crc u w (by unfold maxLen; omega))
      have cT := hid (fun w => implCrc_any t w)
      have cM := hid (fun w => implCrcMore_any (crcM 0 t) u w)
      have cV := hid (fun w => implCrc_any (t ++ u) w)
      rw [crc_goes t u hz] at cV
      generalize crcM (crcM 0 t) u = C2 at *
      generalize crcM 0 t = C0 at *
      generalize crcM crc u = C1 at *
      go_wp2_with fail
      refine (cI.out _).mono ?_
      rintro e wb ⟨rfl, rfl⟩
      go_wp2_with fail
      refine (cJ.out _).mono ?_
      rintro e wc ⟨rfl, rfl⟩
      go_wp2_with fail
      refine (cT.out _).mono ?_
      rintro e wd ⟨rfl, rfl⟩
      go_wp2_with fail
      refine (cM.out _).mono ?_
      rintro e we ⟨rfl, rfl⟩
      go_wp2_with fail
      refine (cV.out _).mono ?_
      rintro e wf ⟨rfl, rfl⟩
      clear cI cJ cT cM cV
      go_wp2
      go_ret
      exact ⟨rfl, Ga.out.bel⟩
    · have hz' : (8000 : Int) < (t.size : Int) + (u.size : Int) := by omega
      clear hz
      go_wp2
      go_ret
      exact ⟨rfl, Ga.out.bel⟩
theorem fnSeal_walk (a1 a2 : Option Addr) (n1 n2 c1 c2 : Nat) (w : World) (hA : n1 ≤ 1048576 → Bs w (.slice a1 n1 c1) n1) (hM : n2 ≤ 1048576 → Bs w (.slice a2 n2 c2) n2) (hg : w.cell? ⟨0, 0, none⟩ = some gErr) :
    Calls Tryd.prog 4 #[.slice a1 n1 c1, .slice a2 n2 c2] w fun e w' => e = .returned (.bool true) ∧ Below w.heap.size w w' := by
  by_cases hb : (n1 : Int) ≤ 1048576 ∧ (n2 : Int) ≤ 1048576
  · exact fnSeal_in a1 a2 n1 n2 c1 c2 w hb.1 hb.2 (hA (by omega)) (hM (by omega)) hg
  · exact fnSeal_big a1 a2 n1 n2 c1 c2 w hb
end Go.Proofs.YtcjclioockjfhaaDoor
