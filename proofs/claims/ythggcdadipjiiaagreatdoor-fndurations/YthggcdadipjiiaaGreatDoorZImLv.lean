/-
  What the methods start and leave of impl.stand do: contracts over the seat's program.
-/
import Derived.Test.YthggcdadipjiiaaGreatDoorZImEnt2
namespace Go.Proofs.YthggcdadipjiiaaGreatDoor
open Go.RowKit Go.Maps Go.WideMaps Go.Sort

theorem prs_chg {p : Nat → Prop} {w w' : World} {g o : Nat} {ps : List Pr} (h : PrsAt w g o ps) (hc : Chg p w w') (hp : ¬ p g) : PrsAt w' g o ps :=
  ⟨Nat.lt_of_lt_of_le h.1 hc.size, fun i hi => ⟨(hc.cell h.1 hp).trans (h.2 i hi).c0, (hc.cell h.1 hp).trans (h.2 i hi).c1⟩⟩
theorem map_chg {p : Nat → Prop} {w w' : World} {b n : Nat} {l : List Tx} (h : MapAt w b n l) (hc : Chg p w w') (hp : ¬ p b) : MapAt w' b n l := by
  obtain ⟨D, ⟨es, clock, hb, r⟩, hD⟩ := h
  exact ⟨D, ⟨es, clock, (hc.block b (err_lt hb) hp).trans hb, r⟩, hD⟩
/-- The marks that a step's flows bring. -/
def addF (s : ByteArray) : List Pr → List Tx → List Tx
  | [], l => l
  | f :: r, l => addF s r (if f.fst = s then txt f.snd :: l else l)
theorem addF_snoc (s : ByteArray) (f : Pr) : ∀ (r : List Pr) (l : List Tx), addF s (r ++ [f]) l = if f.fst = s then txt f.snd :: addF s r l else addF s r l
  | [], l => by simp [addF]
  | g :: r, l => by rw [List.cons_append, addF, addF_snoc s f r]; rfl
theorem addF_take {s : ByteArray} {fs : List Pr} {k : Nat} (h : k < fs.length) (l : List Tx) : addF s (fs.take (k + 1)) l = if fs[k].fst = s then txt fs[k].snd :: addF s (fs.take k) l else addF s (fs.take k) l := by
  rw [List.take_succ_eq_append_getElem h, addF_snoc]
theorem addF_len (s : ByteArray) : ∀ (r : List Pr) (l : List Tx), (addF s r l).length ≤ l.length + r.length
  | [], l => by simp [addF]
  | g :: r, l => by
    have := addF_len s r (if g.fst = s then txt g.snd :: l else l)
    rw [addF]
    by_cases h : g.fst = s
    · rw [if_pos h] at this ⊢; simp at this ⊢; omega
    · rw [if_neg h] at this ⊢; simp at this ⊢; omega
set_option maxRecDepth 100000 in
set_option maxHeartbeats 2000000 in
theorem leave_none (B bw bb : Nat) (sv fv vv : Value) (st bg la fa : Int) (q t r k : Int) (s v : ByteArray) (w : World) (hS : StB w B sv fv st bg la bw bb vv fa) (n : Nat) (bl : List Tx) (hM : MapAt w bb n bl) (hs : s.size ≤ maxLen) (hc : bl.count (txt s) = 0) (a3 : Addr) (hg : w.cell? ⟨3, 0, none⟩ = some (errV a3)) (hgl : 3 < w.heap.size) :
    Calls Tryz.prog 155 #[.pointer (some ⟨B, 0, none⟩), .agg #[.int .i64 q, .int .i64 t, .int .i64 r, .int .i64 k, .string s, .string v]] w fun e w' => e = .returned (errV a3) ∧ Below w.heap.size w w' := by
  have hbW : Below w.heap.size w (w.alloc (.cells #[.int .i64 q, .int .i64 t, .int .i64 r, .int .i64 k, .string s, .string v] 33)) := (Below.refl _ _).alloc (Nat.le_refl _) _
  have HS := hid (hS.stay hbW)
  have HM := hid (hM.stay hbW)
  have x6 := HS.out.cell 6
  change _ = some (Value.map (some bb)) at x6
  have xg := (hbW.cell (p := ⟨3, 0, none⟩) hgl).trans hg
  have y4 : (w.alloc (.cells #[.int .i64 q, .int .i64 t, .int .i64 r, .int .i64 k, .string s, .string v] 33)).cell? ⟨w.heap.size, 4, none⟩ = some (.string s) := by simp [go_sem]
  clear hM hS hg
  go_enter Tryz.func155, Tryz.ntmps155
  go_wp2
  generalize w.alloc (.cells #[.int .i64 q, .int .i64 t, .int .i64 r, .int .i64 k, .string s, .string v] 33) = W at *
  have hdW : W.grownBy W.drew none := ⟨rfl, rfl, rfl, Nat.le_refl _, fun _ _ _ => rfl⟩
  have hd := hid hbW.drew
  have cT := hid (take_no bb n bl s W.drew (HM.out.kept hdW (by simp)) hs hc)
  go_region_held3 (fun w' => w'.cell? ⟨B, 6, none⟩ = some (.map (some bb)) ∧ w'.cell? ⟨w.heap.size, 4, none⟩ = some (.string s)) (go_keep) (first | (go_at_call 164; refine cT.out.mono ?_; rintro e w1 ⟨rfl, rfl⟩))
  go_wp2
  go_ret
  exact ⟨rfl, hd.out⟩
set_option maxRecDepth 100000 in
set_option maxHeartbeats 4000000 in
theorem leave_full (B bw bb : Nat) (sv vv : Value) (fa0 : Option Addr) (kf : Nat) (fs : List Pr) (st bg la fa : Int) (q t r k : Int) (s v : ByteArray) (w : World) (hS : StB w B sv (.slice fa0 fs.length kf) st bg la bw bb vv fa) (n : Nat) (wl bl : List Tx) (hM : MapAt w bw n wl) (hN : MapAt w bb n bl) (hwb : bw ≠ bb) (hP : PrSl w (.slice fa0 fs.length kf) fs) (hFt : FitP fs) (hgm : ∀ g o, fa0 = some ⟨g, o, none⟩ → g ≠ bw ∧ g ≠ bb) (hs : s.size ≤ maxLen) (hc : 0 < bl.count (txt s)) (hl : wl.length ≤ 1000) (hl2 : bl.length ≤ 1000) (hn : n ≤ 100000) (hfl : fs.length ≤ 40) (hov : 40 < (addF s fs wl).length + (bl.erase (txt s)).length) (a4 : Addr) (hg : w.cell? ⟨4, 0, none⟩ = some (errV a4)) (hgl : 4 < w.heap.size) (hgw : 4 ≠ bw) (hgb : 4 ≠ bb) :
    Calls Tryz.prog 155 #[.pointer (some ⟨B, 0, none⟩), .agg #[.int .i64 q, .int .i64 t, .int .i64 r, .int .i64 k, .string s, .string v]] w fun e w' => e = .returned (errV a4) ∧ Chg (fun i => i = bw ∨ i = bb) w w' := by
  have mixed : Tryz.prog.follows .mixedOrders = true := by kernel_rfl
  have hbW : Below w.heap.size w (w.alloc (.cells #[.int .i64 q, .int .i64 t, .int .i64 r, .int .i64 k, .string s, .string v] 33)) := (Below.refl _ _).alloc (Nat.le_refl _) _
  have HS := hid (hS.stay hbW)
  have HM := hid (hM.stay hbW)
  have HN := hid (hN.stay hbW)
  have HP := hid hP
  have hbl := hN.lt
  have hwl := hM.lt
  have x6 := HS.out.cell 6
  change _ = some (Value.map (some bb)) at x6
  have hsz : w.heap.size < (w.alloc (.cells #[.int .i64 q, .int .i64 t, .int .i64 r, .int .i64 k, .string s, .string v] 33)).heap.size := by simp
  have y4 : (w.alloc (.cells #[.int .i64 q, .int .i64 t, .int .i64 r, .int .i64 k, .string s, .string v] 33)).cell? ⟨w.heap.size, 4, none⟩ = some (.string s) := by simp [go_sem]
  have hBb := hS.lt
  have hne : B ≠ bb := hS.ne hN
  have hnw : B ≠ bw := hS.ne hM
  clear hM hN hS hP
  go_enter Tryz.func155, Tryz.ntmps155
  go_wp2
  generalize w.alloc (.cells #[.int .i64 q, .int .i64 t, .int .i64 r, .int .i64 k, .string s, .string v] 33) = W at *
  have hdW : W.grownBy W.drew none := ⟨rfl, rfl, rfl, Nat.le_refl _, fun _ _ _ => rfl⟩
  have cT := hid (take_yes bb n bl s W.drew (HN.out.kept hdW (by simp)) hs hc (by omega) (by omega))
  have hBW : B < W.heap.size := by omega
  have heb : w.heap.size ≠ bb := by omega
  go_region_held3 (fun w' => w'.cell? ⟨B, 6, none⟩ = some (.map (some bb)) ∧ w'.cell? ⟨w.heap.size, 4, none⟩ = some (.string s)) (go_keep) (first | (go_at_call 164; refine cT.out.mono ?_; rintro e w1 ⟨rfl, hN1, hg1⟩; have z6 := (World.cell?_of_block (a := ⟨B, 6, none⟩) (hg1.block B hBW (fun e => hne (by injection e)))).trans x6; have z4 := (World.cell?_of_block (a := ⟨w.heap.size, 4, none⟩) (hg1.block w.heap.size hsz (fun e => heb (by injection e)))).trans y4))
  have HC1 := hid (Chg.trans (p := fun i => i = bb) (Chg.of_none hdW) (Chg.of_grown hg1 rfl))
  have HS1 := hid (HS.out.chg HC1.out hne)
  have HM1 := hid (map_chg HM.out HC1.out hwb)
  have HN1 := hid hN1
  have HCw := hid ((Chg.of_below (p := fun i => i = bw ∨ i = bb) hbW).trans (HC1.out.mono (fun i h => .inr h)))
  have HE1 := hid z4
  have hsz1 : w.heap.size < w1.heap.size := Nat.lt_of_lt_of_le hsz HC1.out.size
  have x1 := HS1.out.cell 1
  change _ = some (Value.slice fa0 fs.length kf) at x1
  clear hN1 hg1 x6 y4 z6 z4 cT HM HN HS
  go_wp2
  clear x1
  go_loopw [22] (fun i wr => ∃ kk : Nat, kk ≤ fs.length ∧ i = .int .i64 kk ∧ MapAt wr bw (n + kk) (addF s (fs.take kk) wl) ∧ Chg (fun i => i = bw) w1 wr) (fun i _ => fs.length - (intOf i).toNat)
  case atStart => exact ⟨0, Nat.zero_le _, rfl, HM1.out, Chg.refl _ _⟩
  case round =>
    obtain ⟨kk, hk, rfl, hMr, hcr⟩ := hrel
    have hEr := (hcr.cell (o := 4) hsz1 (by show ¬ w.heap.size = bw; omega)).trans HE1.out
    have HSr := hid (HS1.out.chg hcr hnw)
    have HMr := hid hMr
    have HCr := hid hcr
    have hszr : w.heap.size < wr.heap.size := Nat.lt_of_lt_of_le hsz1 hcr.size
    clear hMr hcr
    by_cases hlt : kk < fs.length
    · obtain ⟨g2, o2, rfl, hQ⟩ := HP.out.row (by omega)
      obtain ⟨hg2w, hg2b⟩ := hgm g2 o2 rfl
      obtain ⟨c0, c1⟩ := (prs_chg (prs_chg hQ HCw.out (fun h => h.elim hg2w hg2b)) HCr.out hg2w).2 kk hlt
      have HT := hid (addF_take (s := s) hlt wl)
      have hfit := (hFt kk hlt).2
      have hal := addF_len s (fs.take kk) wl
      have htk : (fs.take kk).length ≤ kk := List.length_take_le _ _
      clear hQ
      generalize fs[kk].fst = p1 at *
      generalize fs[kk].snd = p2 at *
      have hbA : Below wr.heap.size wr (wr.alloc (.cells #[.string p1, .string p2] 116)) := (Below.refl _ _).alloc (Nat.le_refl _) _
      have e4 := (hbA.cell (p := ⟨w.heap.size, 4, none⟩) hszr).trans hEr
      by_cases hps : p1 = s
      · subst hps
        rw [if_pos rfl] at HT
        have e1 : (wr.alloc (.cells #[.string p1, .string p2] 116)).cell? ⟨wr.heap.size, 1, none⟩ = some (.string p2) := by simp [go_sem]
        have x5 := (HSr.out.stay hbA).cell 5
        change _ = some (Value.map (some bw)) at x5
        go_wp2
        generalize wr.alloc (.cells #[.string p1, .string p2] 116) = V at *
        have hdV : V.grownBy V.drew none := ⟨rfl, rfl, rfl, Nat.le_refl _, fun _ _ _ => rfl⟩
        obtain ⟨c, w2, ⟨hrun, hupd⟩, ⟨hc0, hc1⟩, hM2, hg2⟩ := inc_runs ((HMr.out.stay hbA).kept hdV (by simp)) hfit (by omega) (by omega)
        have HR := hid (show MapAt w2 bw (n + (kk + 1)) (addF p1 (fs.take (kk + 1)) wl) by rw [HT.out]; exact hM2)
        have HC2 := hid (((HCr.out.trans (Chg.of_below hbA)).trans (Chg.of_none hdV)).trans (Chg.of_grown hg2 rfl))
        clear hM2 hg2 c0 c1
        go_region
        go_wp2
        go_roundw
        case rel => exact ⟨kk + 1, by omega, by go_num, HR.out, HC2.out⟩
        case measure => simp [intOf]; omega
      · rw [if_neg hps] at HT
        have hne2 := str_ne hps
        have HR := hid (show MapAt (wr.alloc (.cells #[.string p1, .string p2] 116)) bw (n + (kk + 1)) (addF s (fs.take (kk + 1)) wl) by
          rw [HT.out]
          obtain ⟨D, hD1, hD2⟩ := HMr.out.stay hbA
          exact ⟨D, hD1.mono (by omega), hD2⟩)
        have HC2 := hid (HCr.out.trans (Chg.of_below hbA))
        go_wp2
        go_roundw
        case rel => exact ⟨kk + 1, by omega, by go_num, HR.out, HC2.out⟩
        case measure => simp [intOf]; omega
    · have hkf : kk = fs.length := by omega
      have HMf := hid (show MapAt wr bw (n + fs.length) (addF s fs wl) by have := HMr.out; rw [hkf, List.take_of_length_le (Nat.le_refl _)] at this; exact this)
      have HNf := hid (map_chg HN1.out HCr.out (by show ¬ bb = bw; exact fun e => hwb e.symm))
      have HCf := hid (HCw.out.trans (HCr.out.mono (fun i h => .inl h)))
      have hal := addF_len s fs wl
      have hel := List.length_erase_le (a := txt s) (l := bl)
      clear hkf HMr HN1 HM1
      have x5 := HSr.out.cell 5
      have x6 := HSr.out.cell 6
      change _ = some (Value.map (some bw)) at x5
      change _ = some (Value.map (some bb)) at x6
      obtain ⟨f, hf1, hf2⟩ : ∃ f : Nat → Nat, f bw = (addF s fs wl).length ∧ f bb = (bl.erase (txt s)).length := ⟨fun b => if b = bw then (addF s fs wl).length else (bl.erase (txt s)).length, by simp, if_neg (fun e => hwb e.symm)⟩
      have F1 := hid hf1
      have F2 := hid hf2
      have hfb1 : f bw ≤ 1048576 := by omega
      have hfb2 : f bb ≤ 1048576 := by omega
      have HX := hid (show f bw + f bb = (addF s fs wl).length + (bl.erase (txt s)).length by omega)
      clear hf1 hf2
      have dA : ∀ b, (b = bw ∨ b = bb) → ∀ d os, Calls Tryz.prog 165 #[.map (some b)] (grow (redrawn wr d) os) fun e w' => e = .returned (.int .i64 (f b)) ∧ _ := fun b hb d os => Calls.regrown_of (w := wr) (d := d) (os := os) (by
        rcases hb with rfl | rfl
        · rw [F1.out]; exact many_any _ (n + fs.length) _ _ (HMf.out.stay (below_regrown wr d os)) (by omega)
        · rw [F2.out]; exact many_any _ (n + 1) _ _ (HNf.out.stay (below_regrown wr d os)) (by omega))
      have hgt : decide ((40 : Int) < (f bw : Int) + (f bb : Int)) = true := decide_eq_true (by have := HX.out; omega)
      have xg := (HCf.out.cell (o := 0) hgl (fun h => h.elim hgw hgb)).trans hg
      have hgr : 4 < wr.heap.size := Nat.lt_of_lt_of_le hgl HCf.out.size
      go_wp2
      have x5' := cell_regrown x5
      have x6' := cell_regrown x6
      clear x5 x6
      refine wp_region_quiet_below mixed (by kernel_rfl) ?_
      repeat (go_big_quiet_step ((go_at_call 165; exact dA _ (by first | exact .inl rfl | exact .inr rfl) _ _)))
      refine wpQuiet_nil ?_
      intro _ hw'
      obtain ⟨⟨dq, osq⟩, hw''⟩ := hw'
      subst hw''
      have xg2 := ((below_regrown wr dq osq).cell (p := ⟨4, 0, none⟩) hgr).trans xg
      have HCz := hid (HCf.out.trans (Chg.of_below (below_regrown wr dq osq)))
      clear dA x5' x6' xg
      go_wp2
      go_ret
      exact ⟨rfl, HCz.out⟩
set_option maxRecDepth 100000 in
set_option maxHeartbeats 4000000 in
theorem leave_yes (B bw bb : Nat) (sv vv : Value) (fa0 : Option Addr) (kf : Nat) (fs : List Pr) (st bg la fa : Int) (q t r k : Int) (s v : ByteArray) (w : World) (hS : StB w B sv (.slice fa0 fs.length kf) st bg la bw bb vv fa) (n : Nat) (wl bl : List Tx) (hM : MapAt w bw n wl) (hN : MapAt w bb n bl) (hwb : bw ≠ bb) (hP : PrSl w (.slice fa0 fs.length kf) fs) (hFt : FitP fs) (hgm : ∀ g o, fa0 = some ⟨g, o, none⟩ → g ≠ bw ∧ g ≠ bb) (hs : s.size ≤ maxLen) (hc : 0 < bl.count (txt s)) (hl : wl.length ≤ 1000) (hl2 : bl.length ≤ 1000) (hn : n ≤ 100000) (hfl : fs.length ≤ 40) (hov : (addF s fs wl).length + (bl.erase (txt s)).length ≤ 40) :
    Calls Tryz.prog 155 #[.pointer (some ⟨B, 0, none⟩), .agg #[.int .i64 q, .int .i64 t, .int .i64 r, .int .i64 k, .string s, .string v]] w fun e w' => e = .returned .nilIface ∧ MapAt w' bw (n + fs.length) (addF s fs wl) ∧ MapAt w' bb (n + 1) (bl.erase (txt s)) ∧ Chg (fun i => i = bw ∨ i = bb) w w' := by
  have mixed : Tryz.prog.follows .mixedOrders = true := by kernel_rfl
  have hbW : Below w.heap.size w (w.alloc (.cells #[.int .i64 q, .int .i64 t, .int .i64 r, .int .i64 k, .string s, .string v] 33)) := (Below.refl _ _).alloc (Nat.le_refl _) _
  have HS := hid (hS.stay hbW)
  have HM := hid (hM.stay hbW)
  have HN := hid (hN.stay hbW)
  have HP := hid hP
  have hbl := hN.lt
  have hwl := hM.lt
  have x6 := HS.out.cell 6
  change _ = some (Value.map (some bb)) at x6
  have hsz : w.heap.size < (w.alloc (.cells #[.int .i64 q, .int .i64 t, .int .i64 r, .int .i64 k, .string s, .string v] 33)).heap.size := by simp
  have y4 : (w.alloc (.cells #[.int .i64 q, .int .i64 t, .int .i64 r, .int .i64 k, .string s, .string v] 33)).cell? ⟨w.heap.size, 4, none⟩ = some (.string s) := by simp [go_sem]
  have hBb := hS.lt
  have hne : B ≠ bb := hS.ne hN
  have hnw : B ≠ bw := hS.ne hM
  clear hM hN hS hP
  go_enter Tryz.func155, Tryz.ntmps155
  go_wp2
  generalize w.alloc (.cells #[.int .i64 q, .int .i64 t, .int .i64 r, .int .i64 k, .string s, .string v] 33) = W at *
  have hdW : W.grownBy W.drew none := ⟨rfl, rfl, rfl, Nat.le_refl _, fun _ _ _ => rfl⟩
  have cT := hid (take_yes bb n bl s W.drew (HN.out.kept hdW (by simp)) hs hc (by omega) (by omega))
  have hBW : B < W.heap.size := by omega
  have heb : w.heap.size ≠ bb := by omega
  go_region_held3 (fun w' => w'.cell? ⟨B, 6, none⟩ = some (.map (some bb)) ∧ w'.cell? ⟨w.heap.size, 4, none⟩ = some (.string s)) (go_keep) (first | (go_at_call 164; refine cT.out.mono ?_; rintro e w1 ⟨rfl, hN1, hg1⟩; have z6 := (World.cell?_of_block (a := ⟨B, 6, none⟩) (hg1.block B hBW (fun e => hne (by injection e)))).trans x6; have z4 := (World.cell?_of_block (a := ⟨w.heap.size, 4, none⟩) (hg1.block w.heap.size hsz (fun e => heb (by injection e)))).trans y4))
  have HC1 := hid (Chg.trans (p := fun i => i = bb) (Chg.of_none hdW) (Chg.of_grown hg1 rfl))
  have HS1 := hid (HS.out.chg HC1.out hne)
  have HM1 := hid (map_chg HM.out HC1.out hwb)
  have HN1 := hid hN1
  have HCw := hid ((Chg.of_below (p := fun i => i = bw ∨ i = bb) hbW).trans (HC1.out.mono (fun i h => .inr h)))
  have HE1 := hid z4
  have hsz1 : w.heap.size < w1.heap.size := Nat.lt_of_lt_of_le hsz HC1.out.size
  have x1 := HS1.out.cell 1
  change _ = some (Value.slice fa0 fs.length kf) at x1
  clear hN1 hg1 x6 y4 z6 z4 cT HM HN HS
  go_wp2
  clear x1
  go_loopw [22] (fun i wr => ∃ kk : Nat, kk ≤ fs.length ∧ i = .int .i64 kk ∧ MapAt wr bw (n + kk) (addF s (fs.take kk) wl) ∧ Chg (fun i => i = bw) w1 wr) (fun i _ => fs.length - (intOf i).toNat)
  case atStart => exact ⟨0, Nat.zero_le _, rfl, HM1.out, Chg.refl _ _⟩
  case round =>
    obtain ⟨kk, hk, rfl, hMr, hcr⟩ := hrel
    have hEr := (hcr.cell (o := 4) hsz1 (by show ¬ w.heap.size = bw; omega)).trans HE1.out
    have HSr := hid (HS1.out.chg hcr hnw)
    have HMr := hid hMr
    have HCr := hid hcr
    have hszr : w.heap.size < wr.heap.size := Nat.lt_of_lt_of_le hsz1 hcr.size
    clear hMr hcr
    by_cases hlt : kk < fs.length
    · obtain ⟨g2, o2, rfl, hQ⟩ := HP.out.row (by omega)
      obtain ⟨hg2w, hg2b⟩ := hgm g2 o2 rfl
      obtain ⟨c0, c1⟩ := (prs_chg (prs_chg hQ HCw.out (fun h => h.elim hg2w hg2b)) HCr.out hg2w).2 kk hlt
      have HT := hid (addF_take (s := s) hlt wl)
      have hfit := (hFt kk hlt).2
      have hal := addF_len s (fs.take kk) wl
      have htk : (fs.take kk).length ≤ kk := List.length_take_le _ _
      clear hQ
      generalize fs[kk].fst = p1 at *
      generalize fs[kk].snd = p2 at *
      have hbA : Below wr.heap.size wr (wr.alloc (.cells #[.string p1, .string p2] 116)) := (Below.refl _ _).alloc (Nat.le_refl _) _
      have e4 := (hbA.cell (p := ⟨w.heap.size, 4, none⟩) hszr).trans hEr
      by_cases hps : p1 = s
      · subst hps
        rw [if_pos rfl] at HT
        have e1 : (wr.alloc (.cells #[.string p1, .string p2] 116)).cell? ⟨wr.heap.size, 1, none⟩ = some (.string p2) := by simp [go_sem]
        have x5 := (HSr.out.stay hbA).cell 5
        change _ = some (Value.map (some bw)) at x5
        go_wp2
        generalize wr.alloc (.cells #[.string p1, .string p2] 116) = V at *
        have hdV : V.grownBy V.drew none := ⟨rfl, rfl, rfl, Nat.le_refl _, fun _ _ _ => rfl⟩
        obtain ⟨c, w2, ⟨hrun, hupd⟩, ⟨hc0, hc1⟩, hM2, hg2⟩ := inc_runs ((HMr.out.stay hbA).kept hdV (by simp)) hfit (by omega) (by omega)
        have HR := hid (show MapAt w2 bw (n + (kk + 1)) (addF p1 (fs.take (kk + 1)) wl) by rw [HT.out]; exact hM2)
        have HC2 := hid (((HCr.out.trans (Chg.of_below hbA)).trans (Chg.of_none hdV)).trans (Chg.of_grown hg2 rfl))
        clear hM2 hg2 c0 c1
        go_region
        go_wp2
        go_roundw
        case rel => exact ⟨kk + 1, by omega, by go_num, HR.out, HC2.out⟩
        case measure => simp [intOf]; omega
      · rw [if_neg hps] at HT
        have hne2 := str_ne hps
        have HR := hid (show MapAt (wr.alloc (.cells #[.string p1, .string p2] 116)) bw (n + (kk + 1)) (addF s (fs.take (kk + 1)) wl) by
          rw [HT.out]
          obtain ⟨D, hD1, hD2⟩ := HMr.out.stay hbA
          exact ⟨D, hD1.mono (by omega), hD2⟩)
        have HC2 := hid (HCr.out.trans (Chg.of_below hbA))
        go_wp2
        go_roundw
        case rel => exact ⟨kk + 1, by omega, by go_num, HR.out, HC2.out⟩
        case measure => simp [intOf]; omega
    · have hkf : kk = fs.length := by omega
      have HMf := hid (show MapAt wr bw (n + fs.length) (addF s fs wl) by have := HMr.out; rw [hkf, List.take_of_length_le (Nat.le_refl _)] at this; exact this)
      have HNf := hid (map_chg HN1.out HCr.out (by show ¬ bb = bw; exact fun e => hwb e.symm))
      have HCf := hid (HCw.out.trans (HCr.out.mono (fun i h => .inl h)))
      have hal := addF_len s fs wl
      have hel := List.length_erase_le (a := txt s) (l := bl)
      clear hkf HMr HN1 HM1
      have x5 := HSr.out.cell 5
      have x6 := HSr.out.cell 6
      change _ = some (Value.map (some bw)) at x5
      change _ = some (Value.map (some bb)) at x6
      obtain ⟨f, hf1, hf2⟩ : ∃ f : Nat → Nat, f bw = (addF s fs wl).length ∧ f bb = (bl.erase (txt s)).length := ⟨fun b => if b = bw then (addF s fs wl).length else (bl.erase (txt s)).length, by simp, if_neg (fun e => hwb e.symm)⟩
      have F1 := hid hf1
      have F2 := hid hf2
      have hfb1 : f bw ≤ 1048576 := by omega
      have hfb2 : f bb ≤ 1048576 := by omega
      have HX := hid (show f bw + f bb = (addF s fs wl).length + (bl.erase (txt s)).length by omega)
      clear hf1 hf2
      have dA : ∀ b, (b = bw ∨ b = bb) → ∀ d os, Calls Tryz.prog 165 #[.map (some b)] (grow (redrawn wr d) os) fun e w' => e = .returned (.int .i64 (f b)) ∧ _ := fun b hb d os => Calls.regrown_of (w := wr) (d := d) (os := os) (by
        rcases hb with rfl | rfl
        · rw [F1.out]; exact many_any _ (n + fs.length) _ _ (HMf.out.stay (below_regrown wr d os)) (by omega)
        · rw [F2.out]; exact many_any _ (n + 1) _ _ (HNf.out.stay (below_regrown wr d os)) (by omega))
      have hgt : decide ((40 : Int) < (f bw : Int) + (f bb : Int)) = false := decide_eq_false (by have := HX.out; omega)
      go_wp2
      have x5' := cell_regrown x5
      have x6' := cell_regrown x6
      clear x5 x6
      refine wp_region_quiet_below mixed (by kernel_rfl) ?_
      repeat (go_big_quiet_step ((go_at_call 165; exact dA _ (by first | exact .inl rfl | exact .inr rfl) _ _)))
      refine wpQuiet_nil ?_
      intro _ hw'
      obtain ⟨⟨dq, osq⟩, hw''⟩ := hw'
      subst hw''
      have HCz := hid (HCf.out.trans (Chg.of_below (below_regrown wr dq osq)))
      have HMz := hid (HMf.out.stay (below_regrown wr dq osq))
      have HNz := hid (HNf.out.stay (below_regrown wr dq osq))
      clear dA x5' x6'
      go_wp2
      go_ret
      exact ⟨rfl, HMz.out, HNz.out, HCz.out⟩
end Go.Proofs.YthggcdadipjiiaaGreatDoor
