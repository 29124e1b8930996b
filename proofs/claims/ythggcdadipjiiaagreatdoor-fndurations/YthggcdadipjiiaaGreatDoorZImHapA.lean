/-
  What the method happen of impl.stand does at every event: a contract over the seat's program.
-/
import Derived.Test.YthggcdadipjiiaaGreatDoorZImHap
namespace Go.Proofs.YthggcdadipjiiaaGreatDoor
open Go.RowKit Go.Maps Go.WideMaps Go.Sort

/-- The error of a code. -/
def aOf (a0 a1 a2 a3 a4 : Addr) (c : Int) : Addr := if c = 1 then a0 else if c = 10 then a1 else if c = 8 then a2 else if c = 6 then a3 else a4
theorem mem_txt {l : List ByteArray} {s : ByteArray} : txt s ∈ l.map txt ↔ s ∈ l := by
  constructor
  · intro h
    obtain ⟨x, hx, e⟩ := List.mem_map.1 h
    rw [← txt_inj e]; exact hx
  · exact List.mem_map_of_mem
theorem cnt_no {l : List ByteArray} {s : ByteArray} (h : atI l s < 0) : (l.map txt).count (txt s) = 0 := by
  rw [List.count_eq_zero]
  intro hm
  have := atI_ge.2 (mem_txt.1 hm)
  omega
theorem cnt_yes {l : List ByteArray} {s : ByteArray} (h : ¬ atI l s < 0) : 0 < (l.map txt).count (txt s) := List.count_pos_iff.2 (mem_txt.2 (at_lt h).2)
theorem out_perm_at {l : List ByteArray} {s : ByteArray} (h : ¬ atI l s < 0) : ((l.map txt).erase (txt s)).Perm ((outT l (atI l s).toNat).map txt) := by
  obtain ⟨k, hk, e, es, _⟩ := atI_in (at_lt h).2
  have hkn : (atI l s).toNat = k := by rw [e]; simp
  rw [hkn]
  have := ((out_perm hk).map txt).erase (txt l[k])
  rw [List.map_cons, List.erase_cons_head, es] at this
  exact this.symm
theorem erase_len {l : List ByteArray} {s : ByteArray} (h : ¬ atI l s < 0) : ((l.map txt).erase (txt s)).length = (outT l (atI l s).toNat).length := by
  rw [(out_perm_at h).length_eq, List.length_map]
/-- What stays of a stand. -/
theorem Stand.keep {w w' : World} {lo B bw bb : Nat} {sv fv vv : Value} {n m : Nat} {S S' : St} (h : Stand w lo B bw bb sv fv vv n S) (blk : StB w' B sv fv S'.status S'.begun S'.last bw bb vv S'.faults) (mw : MapAt w' bw m (S'.wait.map txt)) (mb : MapAt w' bb m (S'.busy.map txt)) (hv : S'.vars = S.vars) {p : Nat → Prop} (hc : Chg p w w') (hp : ∀ j, p j → j = B ∨ j = bw ∨ j = bb) : Stand w' lo B bw bb sv fv vv m S' := by
  refine ⟨blk, mw, mb, ?_, h.wb, h.lw, h.lb, h.lB⟩
  rw [hv]
  refine own_chg h.ov hc (fun g hg hpg => ?_)
  rcases hp g hpg with e | e | e
  · exact own_ne h.ov h.blk (by decide) g hg e
  · exact map_own_ne h.mw h.ov g hg e
  · exact map_own_ne h.mb h.ov g hg e
structure HapIn (w : World) (lo : Nat) (a1 a2 : Option Addr) (k1 k2 : Nat) (ss : List ByteArray) (fs : List Pr) (e0 e1 e2 e3 e4 : Addr) : Prop where
  r1 : StrSl w (.slice a1 ss.length k1) ss
  r2 : PrSl w (.slice a2 fs.length k2) fs
  l1 : ∀ g o, a1 = some ⟨g, o, none⟩ → g < lo
  l2 : ∀ g o, a2 = some ⟨g, o, none⟩ → g < lo
  er : ErrsAt w e0 e1 e2 e3 e4
  ng : (4 + 1) ≤ lo
theorem HapIn.stay {w w' : World} {lo : Nat} {a1 a2 : Option Addr} {k1 k2 : Nat} {ss : List ByteArray} {fs : List Pr} {e0 e1 e2 e3 e4 : Addr} (h : HapIn w lo a1 a2 k1 k2 ss fs e0 e1 e2 e3 e4) (hb : Below w.heap.size w w') : HapIn w' lo a1 a2 k1 k2 ss fs e0 e1 e2 e3 e4 := ⟨h.r1.stay hb (Nat.le_refl _), h.r2.stay hb (Nat.le_refl _), h.l1, h.l2, h.er.stay hb, h.ng⟩
set_option maxHeartbeats 2000000 in
theorem happen_any (lo B bw bb n : Nat) (a1 a2 : Option Addr) (k1 k2 : Nat) (ss : List ByteArray) (fs : List Pr) (vv : Value) (S : St) (e : Ev) (e0 e1 e2 e3 e4 : Addr) (w : World) (hS : Stand w lo B bw bb (.slice a1 ss.length k1) (.slice a2 fs.length k2) vv n S) (hI : HapIn w lo a1 a2 k1 k2 ss fs e0 e1 e2 e3 e4) (D : DefP ss fs) (hP : StP ss S) (F1 : ∀ i, (h : i < ss.length) → ss[i].size ≤ maxLen) (F2 : FitP fs) (he : e.step.size ≤ maxLen) (hn : n ≤ 50000) :
    Calls Tryz.prog 105 #[.pointer (some ⟨B, 0, none⟩), evV e] w fun x w' => Chg (Pst B bw bb vv) w w' ∧ ((evS ss fs S e).1 = 0 → x = .returned .nilIface ∧ ∃ vv', Stand w' lo B bw bb (.slice a1 ss.length k1) (.slice a2 fs.length k2) vv' (n + 41) (evS ss fs S e).2) ∧ (¬ (evS ss fs S e).1 = 0 → x = .returned (errV (aOf e0 e1 e2 e3 e4 (evS ss fs S e).1))) := by
  have hng := Nat.le_trans hI.ng hS.lB
  have hBl := hS.blk.lt
  have gl : ∀ g, g < (4 + 1) → g < w.heap.size := fun g h => by omega
  have bad : ∀ (c : Int) (a : Addr) (x : Ending) (w' : World), ¬ c = 0 → aOf e0 e1 e2 e3 e4 c = a → x = .returned (errV a) → Chg (Pst B bw bb vv) w w' → Chg (Pst B bw bb vv) w w' ∧ (((c, z0) : Int × St).1 = 0 → x = .returned .nilIface ∧ ∃ vv', Stand w' lo B bw bb (.slice a1 ss.length k1) (.slice a2 fs.length k2) vv' (n + 41) ((c, z0) : Int × St).2) ∧ (¬ ((c, z0) : Int × St).1 = 0 → x = .returned (errV (aOf e0 e1 e2 e3 e4 ((c, z0) : Int × St).1))) := fun c a x w' hc ha hx hC => ⟨hC, fun h => absurd h hc, fun _ => by rw [show ((c, z0) : Int × St).1 = c from rfl, ha]; exact hx⟩
  have sm := stP_small hP
  by_cases hev : evB e = true
  · rw [show evS ss fs S e = stepS ss fs S e from if_pos hev]
    by_cases haw : awB S.status e.kind = true
    · by_cases ht : e.time < S.last
      · rw [show stepS ss fs S e = (8, z0) by unfold stepS; rw [if_pos haw, if_pos ht]]
        refine (happen_early lo B bw bb n _ _ vv S e.seq e.time e.run e.kind e.step e.val w hS he hev haw ht e2 hI.er.c2 (gl _ (by decide))).mono ?_
        rintro x w' ⟨hx, hb⟩
        exact bad 8 e2 x w' (by decide) rfl hx (Chg.of_below hb)
      · rw [show stepS ss fs S e = doS ss fs S e by unfold stepS; rw [if_pos haw, if_neg ht]]
        have hk := ev_kind hev
        obtain ⟨aw1, aw2⟩ := aw_st haw
        have hsz := ev_size hev
        have hF := fun (hE : ErrsAt w e0 e1 e2 e3 e4) (W : World) (hb : Below w.heap.size w W) => (hE.stay hb)
        have gW : ∀ (W : World), Below w.heap.size w W → ∀ g, g < (4 + 1) → g < W.heap.size := fun W hb g h => by have := hb.size; omega
        have hwB : B ≠ bw := hS.blk.ne hS.mw
        have hbB : B ≠ bb := hS.blk.ne hS.mb
        have two : ∀ j, (j = bw ∨ j = bb) → j = B ∨ j = bw ∨ j = bb := fun j h => .inr h
        have twoP : ∀ j, (j = bw ∨ j = bb) → Pst B bw bb vv j := fun j h => h.elim (fun h => .inr (.inl h)) (fun h => .inr (.inr (.inl h)))
        have lw : (S.wait.map txt).length ≤ 40 := by rw [List.length_map]; omega
        have lb : (S.busy.map txt).length ≤ 40 := by rw [List.length_map]; omega
        obtain ⟨q, t, r, k, s, v⟩ := e
        simp only at hk ht haw he hsz aw1 aw2
        rcases hk with rfl | rfl | rfl | rfl | rfl | rfl
        · have hno := (stP_0 (aw1 rfl)).1 hP
          have h0 : 0 < ss.length := D.1.n1
          obtain ⟨g, o, hga, hR⟩ := hI.r1.row h0
          subst hga
          rw [show doS ss fs S ⟨q, t, r, 1, s, v⟩ = (0, { S with status := 1, begun := t, last := t, wait := ss.take 1 }) from rfl]
          refine (happen_ok1 lo B bw bb n _ _ vv S q t r s v w hS he hev haw ht (n + 41) { S with status := 1, begun := t, wait := ss.take 1 } (fun W hb => ?_)).mono ?_
          · have hSW := hS.stay hb
            refine (start_any B bw bb g o k1 ss _ vv _ _ _ _ q t r 1 s v W hSW.blk n _ hSW.mw (hR.stay hb (Nat.le_refl _)) (by have := hI.l1 g o rfl; have := hS.lB; omega) h0 (by have := D.1.n2; unfold maxLen; omega) (F1 0 h0) (by omega) (by omega)).mono ?_
            rintro x w' ⟨rfl, hB', hM', hC'⟩
            have hw0 : S.wait = [] := List.eq_nil_of_length_eq_zero hno.w
            have hx : (ss.take 1).map txt = txt ss[0] :: S.wait.map txt := by
              rw [hw0]
              cases ss with
              | nil => simp at h0
              | cons y r => rfl
            refine ⟨vv, rfl, hSW.keep hB' ?_ ?_ rfl hC' (fun j h => h.elim .inl (fun h => .inr (.inl h))), hC'.mono (fun j h => h.elim .inl (fun h => .inr (.inl h)))⟩
            · show MapAt w' bw (n + 41) ((ss.take 1).map txt)
              rw [hx]; exact hM'.mono (by omega)
            · exact (map_chg hSW.mb hC' (fun h => h.elim (fun h => hbB h.symm) (fun h => hS.wb h.symm))).mono (by omega)
          · rintro x w' ⟨vv', rfl, hS', hC⟩
            exact ⟨hC, fun _ => ⟨rfl, vv', hS'⟩, fun h => absurd rfl h⟩
        · by_cases hm : atI S.wait s < 0
          · rw [show doS ss fs S ⟨q, t, r, 2, s, v⟩ = (6, z0) from if_pos hm]
            refine (happen_err2 lo B bw bb n _ _ vv S q t r s v w hS he hev haw ht e3 (fun W hb => ?_)).mono ?_
            · have hSW := hS.stay hb
              refine (enter_no B bw n _ q t r 2 s v e3 W (hSW.blk.cell 5) hSW.blk.lt hSW.mw he (cnt_no hm) (hF hI.er W hb).c3 (gW W hb _ (by decide))).mono ?_
              rintro x w' ⟨hx, hb'⟩
              exact ⟨hx, Chg.of_below hb'⟩
            · rintro x w' ⟨hx, hC⟩
              exact bad 6 e3 x w' (by decide) rfl hx hC
          · rw [show doS ss fs S ⟨q, t, r, 2, s, v⟩ = (0, { S with wait := outT S.wait (atI S.wait s).toNat, busy := putT S.busy s, last := t }) from if_neg hm]
            refine (happen_ok2 lo B bw bb n _ _ vv S q t r s v w hS he hev haw ht (n + 41) { S with wait := outT S.wait (atI S.wait s).toNat, busy := putT S.busy s } (fun W hb => ?_)).mono ?_
            · have hSW := hS.stay hb
              refine (enter_yes B bw bb n _ _ q t r 2 s v W (hSW.blk.cell 5) (hSW.blk.cell 6) hSW.blk.lt hwB hS.wb hSW.mw hSW.mb he (cnt_yes hm) (by omega) (by omega) (by omega)).mono ?_
              rintro x w' ⟨rfl, hM1, hM2, hC'⟩
              refine ⟨vv, rfl, hSW.keep (hSW.blk.chg hC' (fun h => h.elim hwB hbB)) ?_ ?_ rfl hC' two, hC'.mono twoP⟩
              · exact (hM1.perm (out_perm_at hm)).mono (by omega)
              · exact (hM2.perm ((put_perm S.busy s).map txt).symm).mono (by omega)
            · rintro x w' ⟨vv', rfl, hS', hC⟩
              exact ⟨hC, fun _ => ⟨rfl, vv', hS'⟩, fun h => absurd rfl h⟩
        · by_cases hm : atI S.busy s < 0
          · rw [show doS ss fs S ⟨q, t, r, 3, s, v⟩ = (6, z0) from if_pos hm]
            refine (happen_err3 lo B bw bb n _ _ vv S q t r s v w hS he hev haw ht e3 (fun W hb => ?_)).mono ?_
            · have hSW := hS.stay hb
              refine (leave_none B bw bb _ _ vv _ _ _ _ q t r 3 s v W hSW.blk n _ hSW.mb he (cnt_no hm) e3 (hF hI.er W hb).c3 (gW W hb _ (by decide))).mono ?_
              rintro x w' ⟨hx, hb'⟩
              exact ⟨hx, Chg.of_below hb'⟩
            · rintro x w' ⟨hx, hC⟩
              exact bad 6 e3 x w' (by decide) rfl hx hC
          · have hB1 := (stP_1 (aw2 (by decide))).1 hP
            have hlen1 : (addF s fs (S.wait.map txt)).length = (putF s fs S.wait).length := (putF_len s hB1.w.asc fs).symm
            have hlen2 := erase_len hm
            have hpp : (addF s fs (S.wait.map txt)).Perm ((putF s fs S.wait).map txt) := by rw [putF_srt s hB1.w.asc]; exact (srt_perm _).symm
            have hgm : ∀ g o, a2 = some ⟨g, o, none⟩ → g ≠ bw ∧ g ≠ bb := fun g o h => by have := hI.l2 g o h; have := hS.lw; have := hS.lb; omega
            by_cases hf : 40 < (putF s fs S.wait).length + (outT S.busy (atI S.busy s).toNat).length
            · rw [show doS ss fs S ⟨q, t, r, 3, s, v⟩ = (9, z0) from (if_neg hm).trans (if_pos hf)]
              refine (happen_err3 lo B bw bb n _ _ vv S q t r s v w hS he hev haw ht e4 (fun W hb => ?_)).mono ?_
              · have hSW := hS.stay hb
                refine (leave_full B bw bb _ vv a2 k2 fs _ _ _ _ q t r 3 s v W hSW.blk n _ _ hSW.mw hSW.mb hS.wb (hI.r2.stay hb (Nat.le_refl _)) F2 hgm he (cnt_yes hm) (by omega) (by omega) (by omega) D.2.m (by omega) e4 (hF hI.er W hb).c4 (gW W hb _ (by decide)) (by have h1 : 4 < (4 + 1) := (by decide); have := hI.ng; have := hS.lw; omega) (by have h1 : 4 < (4 + 1) := (by decide); have := hI.ng; have := hS.lb; omega)).mono ?_
                rintro x w' ⟨hx, hC'⟩
                exact ⟨hx, hC'.mono twoP⟩
              · rintro x w' ⟨hx, hC⟩
                exact bad 9 e4 x w' (by decide) rfl hx hC
            · rw [show doS ss fs S ⟨q, t, r, 3, s, v⟩ = (0, { S with wait := putF s fs S.wait, busy := outT S.busy (atI S.busy s).toNat, last := t }) from (if_neg hm).trans (if_neg hf)]
              refine (happen_ok3 lo B bw bb n _ _ vv S q t r s v w hS he hev haw ht (n + 41) { S with wait := putF s fs S.wait, busy := outT S.busy (atI S.busy s).toNat } (fun W hb => ?_)).mono ?_
              · have hSW := hS.stay hb
                refine (leave_yes B bw bb _ vv a2 k2 fs _ _ _ _ q t r 3 s v W hSW.blk n _ _ hSW.mw hSW.mb hS.wb (hI.r2.stay hb (Nat.le_refl _)) F2 hgm he (cnt_yes hm) (by omega) (by omega) (by omega) D.2.m (by omega)).mono ?_
                rintro x w' ⟨rfl, hM1, hM2, hC'⟩
                refine ⟨vv, rfl, hSW.keep (hSW.blk.chg hC' (fun h => h.elim hwB hbB)) ?_ ?_ rfl hC' two, hC'.mono twoP⟩
                · exact (hM1.perm hpp).mono (by have := D.2.m; omega)
                · exact (hM2.perm (out_perm_at hm)).mono (by omega)
              · rintro x w' ⟨vv', rfl, hS', hC⟩
                exact ⟨hC, fun _ => ⟨rfl, vv', hS'⟩, fun h => absurd rfl h⟩
        · have hB1 := (stP_1 (aw2 (by decide))).1 hP
          have hr := rise_of hB1.v.rise
          obtain ⟨a5, c5, rfl⟩ := ownB_form hS.ov
          by_cases hfd : fndV S.vars s = true
          · obtain ⟨hkl, hke⟩ := found_lt hfd
            have hl5 := setV_old_len (v := ⟨s, v⟩) hkl hke
            have hf : ¬ 20 < (setV S.vars ⟨s, v⟩).length := by rw [hl5]; omega
            rw [show doS ss fs S ⟨q, t, r, 4, s, v⟩ = (0, { S with vars := setV S.vars ⟨s, v⟩, last := t }) from if_neg hf]
            refine (happen_ok4 lo B bw bb n _ _ _ S q t r s v w hS he hev haw ht (n + 41) { S with vars := setV S.vars ⟨s, v⟩ } (fun W hb => ?_)).mono ?_
            · have hSW := hS.stay hb
              refine (set_old B bw bb lo _ _ a5 c5 S.vars _ _ _ _ q t r 4 s v W hSW.blk hSW.ov hr (by omega) hfd).mono ?_
              rintro x w' ⟨rfl, hB', hO', hC'⟩
              refine ⟨_, rfl, ⟨hB', ?_, ?_, ?_, hS.wb, hS.lw, hS.lb, hS.lB⟩, hC'.mono (fun j h => .inr (.inr (.inr h)))⟩
              · exact (map_chg hSW.mw hC' (fun h => map_own_ne hSW.mw hSW.ov bw h rfl)).mono (by omega)
              · exact (map_chg hSW.mb hC' (fun h => map_own_ne hSW.mb hSW.ov bb h rfl)).mono (by omega)
              · show w'.ownsRow lo _ 2 _ (setV S.vars ⟨s, v⟩).length _
                rw [hl5]; exact hO'
            · rintro x w' ⟨vv', rfl, hS', hC⟩
              exact ⟨hC, fun _ => ⟨rfl, vv', hS'⟩, fun h => absurd rfl h⟩
          · have hfd' : fndV S.vars s = false := by simpa using hfd
            have hl5 := setV_new_len (l := S.vars) (v := ⟨s, v⟩) (found_not hfd')
            by_cases h20 : S.vars.length = 20
            · have hf : 20 < (setV S.vars ⟨s, v⟩).length := by rw [hl5]; omega
              rw [show doS ss fs S ⟨q, t, r, 4, s, v⟩ = (9, z0) from if_pos hf]
              refine (happen_err4 lo B bw bb n _ _ _ S q t r s v w hS he hev haw ht e4 (fun W hb => ?_)).mono ?_
              · have hSW := hS.stay hb
                refine (set_full B bw bb lo _ _ a5 c5 S.vars _ _ _ _ q t r 4 s v W hSW.blk hSW.ov hr (by omega) hfd' h20 e4 (hF hI.er W hb).c4 (gW W hb _ (by decide))).mono ?_
                rintro x w' ⟨hx, hb'⟩
                exact ⟨hx, Chg.of_below hb'⟩
              · rintro x w' ⟨hx, hC⟩
                exact bad 9 e4 x w' (by decide) rfl hx hC
            · have hf : ¬ 20 < (setV S.vars ⟨s, v⟩).length := by rw [hl5]; omega
              rw [show doS ss fs S ⟨q, t, r, 4, s, v⟩ = (0, { S with vars := setV S.vars ⟨s, v⟩, last := t }) from if_neg hf]
              refine (happen_ok4 lo B bw bb n _ _ _ S q t r s v w hS he hev haw ht (n + 41) { S with vars := setV S.vars ⟨s, v⟩ } (fun W hb => ?_)).mono ?_
              · have hSW := hS.stay hb
                refine (set_new B bw bb lo _ _ a5 c5 S.vars _ _ _ _ q t r 4 s v W hSW.blk hSW.ov hr (by omega) hfd' (by omega) (by have := hSW.lB; have := hSW.blk.lt; omega)).mono ?_
                rintro x w' ⟨a', c', rfl, hB', hO', hC'⟩
                have hPb : ∀ b, (b = bw ∨ b = bb) → ¬ (b = B ∨ (Value.slice a5 S.vars.length c5).ownBlock = some b) := by
                  rintro b hb1 (h | h)
                  · rcases hb1 with rfl | rfl
                    · exact hwB h.symm
                    · exact hbB h.symm
                  · rcases hb1 with rfl | rfl
                    · exact map_own_ne hSW.mw hSW.ov _ h rfl
                    · exact map_own_ne hSW.mb hSW.ov _ h rfl
                refine ⟨_, rfl, ⟨hB', ?_, ?_, ?_, hS.wb, hS.lw, hS.lb, hS.lB⟩, hC'.mono (fun j h => h.elim .inl (fun h => .inr (.inr (.inr h))))⟩
                · exact (map_chg hSW.mw hC' (hPb bw (.inl rfl))).mono (by omega)
                · exact (map_chg hSW.mb hC' (hPb bb (.inr rfl))).mono (by omega)
                · show w'.ownsRow lo _ 2 _ (setV S.vars ⟨s, v⟩).length _
                  rw [hl5]; exact hO'
              · rintro x w' ⟨vv', rfl, hS', hC⟩
                exact ⟨hC, fun _ => ⟨rfl, vv', hS'⟩, fun h => absurd rfl h⟩
        · by_cases hm : atI S.busy s < 0
          · rw [show doS ss fs S ⟨q, t, r, 5, s, v⟩ = (6, z0) from if_pos hm]
            refine (happen_err5 lo B bw bb n _ _ vv S q t r s v w hS he hev haw ht e3 (fun W hb => ?_)).mono ?_
            · have hSW := hS.stay hb
              refine (fault_none B bw bb _ _ vv _ _ _ _ q t r 5 s v W hSW.blk n _ hSW.mb he (cnt_no hm) e3 (hF hI.er W hb).c3 (gW W hb _ (by decide))).mono ?_
              rintro x w' ⟨hx, hb'⟩
              exact ⟨hx, Chg.of_below hb'⟩
            · rintro x w' ⟨hx, hC⟩
              exact bad 6 e3 x w' (by decide) rfl hx hC
          · have hB1 := (stP_1 (aw2 (by decide))).1 hP
            have hfa := tim_iff.1 hB1.f
            by_cases hf : 1000000 ≤ S.faults
            · rw [show doS ss fs S ⟨q, t, r, 5, s, v⟩ = (9, z0) from (if_neg hm).trans (if_pos hf)]
              refine (happen_err5 lo B bw bb n _ _ vv S q t r s v w hS he hev haw ht e4 (fun W hb => ?_)).mono ?_
              · have hSW := hS.stay hb
                refine (fault_full B bw bb _ _ vv _ _ _ _ q t r 5 s v W hSW.blk n _ hSW.mb he (cnt_yes hm) (by omega) e4 (hF hI.er W hb).c4 (gW W hb _ (by decide))).mono ?_
                rintro x w' ⟨hx, hb'⟩
                exact ⟨hx, Chg.of_below hb'⟩
              · rintro x w' ⟨hx, hC⟩
                exact bad 9 e4 x w' (by decide) rfl hx hC
            · rw [show doS ss fs S ⟨q, t, r, 5, s, v⟩ = (0, { S with faults := S.faults + 1, last := t }) from (if_neg hm).trans (if_neg hf)]
              refine (happen_ok5 lo B bw bb n _ _ vv S q t r s v w hS he hev haw ht (n + 41) { S with faults := S.faults + 1 } (fun W hb => ?_)).mono ?_
              · have hSW := hS.stay hb
                refine (fault_yes B bw bb _ _ vv _ _ _ _ q t r 5 s v W hSW.blk n _ hSW.mb he (cnt_yes hm) hfa.1 (by omega)).mono ?_
                rintro x w' ⟨rfl, hB', hC'⟩
                refine ⟨vv, rfl, hSW.keep hB' ?_ ?_ rfl hC' (fun j h => .inl h), hC'.mono (fun j h => .inl h)⟩
                · exact (map_chg hSW.mw hC' (fun h => hwB h.symm)).mono (by omega)
                · exact (map_chg hSW.mb hC' (fun h => hbB h.symm)).mono (by omega)
              · rintro x w' ⟨vv', rfl, hS', hC⟩
                exact ⟨hC, fun _ => ⟨rfl, vv', hS'⟩, fun h => absurd rfl h⟩
        · by_cases hm : 0 < S.wait.length + S.busy.length
          · rw [show doS ss fs S ⟨q, t, r, 6, s, v⟩ = (10, z0) from if_pos hm]
            refine (happen_err6 lo B bw bb n _ _ vv S q t r s v w hS he hev haw ht e1 (fun W hb => ?_)).mono ?_
            · have hSW := hS.stay hb
              refine (end_no B bw bb _ _ vv _ _ _ _ q t r 6 s v W hSW.blk n _ _ hSW.mw hSW.mb (by omega) (by omega) hS.wb (by rw [List.length_map, List.length_map]; exact hm) e1 (hF hI.er W hb).c1 (gW W hb _ (by decide))).mono ?_
              rintro x w' ⟨hx, hb'⟩
              exact ⟨hx, Chg.of_below hb'⟩
            · rintro x w' ⟨hx, hC⟩
              exact bad 10 e1 x w' (by decide) rfl hx hC
          · rw [show doS ss fs S ⟨q, t, r, 6, s, v⟩ = (0, { S with status := 2, last := t }) from if_neg hm]
            refine (happen_ok6 lo B bw bb n _ _ vv S q t r s v w hS he hev haw ht (n + 41) { S with status := 2 } (fun W hb => ?_)).mono ?_
            · have hSW := hS.stay hb
              refine (end_yes B bw bb _ _ vv _ _ _ _ q t r 6 s v W hSW.blk n _ _ hSW.mw hSW.mb (by omega) (by omega) hS.wb (by rw [List.length_map, List.length_map]; omega)).mono ?_
              rintro x w' ⟨rfl, hB', hC'⟩
              refine ⟨vv, rfl, hSW.keep hB' ?_ ?_ rfl hC' (fun j h => .inl h), hC'.mono (fun j h => .inl h)⟩
              · exact (map_chg hSW.mw hC' (fun h => hwB h.symm)).mono (by omega)
              · exact (map_chg hSW.mb hC' (fun h => hbB h.symm)).mono (by omega)
            · rintro x w' ⟨vv', rfl, hS', hC⟩
              exact ⟨hC, fun _ => ⟨rfl, vv', hS'⟩, fun h => absurd rfl h⟩
    · rw [show stepS ss fs S e = (10, z0) by unfold stepS; rw [if_neg haw]]
      refine (happen_state lo B bw bb n _ _ vv S e.seq e.time e.run e.kind e.step e.val w hS he hev (by simpa using haw) e1 hI.er.c1 (gl _ (by decide))).mono ?_
      rintro x w' ⟨hx, hb⟩
      exact bad 10 e1 x w' (by decide) rfl hx (Chg.of_below hb)
  · rw [show evS ss fs S e = (1, z0) from if_neg hev]
    refine (happen_wrong lo B bw bb n _ _ vv S e.seq e.time e.run e.kind e.step e.val w hS he (by simpa using hev) e0 hI.er.c0 (gl _ (by decide))).mono ?_
    rintro x w' ⟨hx, hb⟩
    exact bad 1 e0 x w' (by decide) rfl hx (Chg.of_below hb)
end Go.Proofs.YthggcdadipjiiaaGreatDoor
