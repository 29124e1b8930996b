/-
  Draws: what (*spec.l01Src).l02Some answers: a row of its own of few events, their texts short: a contract over the seat's program.
-/
import Derived.Test.YticnffakngpkfaaDoorDrEv
import Derived.Test.YticnffakngpkfaaDoorOwnRow
namespace Go.Proofs.YticnffakngpkfaaDoor
open Go.RowKit

theorem Tryd.infoEvd : (Tryd.prog.info? 32).map (fun i => (i.zero, i.size, i.bytes)) = some (some (.agg #[.int .i64 0, .int .i64 0, .int .i64 0, .int .i64 0, .string ⟨#[]⟩, .string ⟨#[]⟩]), 6, 64) := by kernel_rfl
/-- Short texts, all of them. -/
def Short (l : List Ev) : Prop := ∀ e ∈ l, e.step.size ≤ 100 ∧ e.val.size ≤ 100
theorem Short.snoc {l : List Ev} {e : Ev} (h : Short l) (h1 : e.step.size ≤ 100) (h2 : e.val.size ≤ 100) : Short (l ++ [e]) := by
  intro x hx
  simp at hx
  rcases hx with hx | rfl
  · exact h x hx
  · exact ⟨h1, h2⟩
/-- Amid the row: the source, the events so far. -/
structure Som (w wr : World) (b : Nat) (V : Value) (n : Nat) (v : Value) (l : List Ev) : Prop where
  dr : Drw wr b V n
  own : wr.ownsRow w.heap.size 32 6 v l.length (l.flatMap Ev.cells)
  gr : w.grownBy wr (some b)
  short : Short l
  hb : b < w.heap.size
theorem Som.call {w W W' : World} {b n : Nat} {V v : Value} {l : List Ev} (h : Som w W b V n v l) (hd : Drw W' b V n) (hg : W.grownBy W' (some b)) : Som w W' b V n v l :=
  ⟨hd, own_kept h.own h.hb hg, grown_trans h.gr hg, h.short, h.hb⟩
theorem Som.alloc {w W : World} {b n : Nat} {V v : Value} {l : List Ev} (h : Som w W b V n v l) (o : Obj) : Som w (W.alloc o) b V n v l :=
  ⟨h.dr.stay (r := none) (World.grownBy_alloc W o none) (fun k hk => by cases hk), h.own.alloc o, grown_trans h.gr (World.grownBy_alloc W o _), h.short, h.hb⟩
theorem Som.app {w W W' : World} {b n : Nat} {V v v' : Value} {l : List Ev} (h : Som w W b V n v l) (e : Ev) (h1 : e.step.size ≤ 100) (h2 : e.val.size ≤ 100) (hown : W'.ownsRow w.heap.size 32 6 v' (l.length + 1) (l.flatMap Ev.cells ++ e.cells)) (hg : W.grownBy W' v.ownBlock) : Som w W' b V n v' (l ++ [e]) := by
  refine ⟨h.dr.stay (r := v.ownBlock) hg (fun k hk => ?_), ?_, grown_own h.gr h.own (Nat.le_refl _) hg, h.short.snoc h1 h2, h.hb⟩
  · have := (h.own.lt k hk).1
    have := h.hb
    omega
  · rw [flat_snoc, List.length_append]; exact hown
theorem Som.made {w W : World} {b n : Nat} {V : Value} (hd : Drw W b V n) (hg : w.grownBy W (some b)) (hb : b < w.heap.size) : Som w (W.alloc (.cells #[] 32)) b V n (.slice (some ⟨W.heap.size, 0, none⟩) 0 0) [] :=
  ⟨hd.stay (r := none) (World.grownBy_alloc W _ none) (fun k hk => by cases hk), World.ownsRow_made W #[] 0 hg.size (Nat.zero_le _) rfl, grown_trans hg (World.grownBy_alloc W _ _), fun e he => absurd he (by simp), hb⟩

set_option maxHeartbeats 2000000 in
set_option maxRecDepth 100000 in
theorem drawSome_any (b n : Nat) (V : Value) (w : World) (h : Drw w b V n) :
    Calls Tryd.prog 19 #[.pointer (some ⟨b, 0, none⟩)] w fun e w' => ∃ v l, e = .returned v ∧ Som w w' b V n v l ∧ l.length ≤ 250 := by
  obtain ⟨i0, hi, hz0, hz1, hz2⟩ := info_parts Tryd.infoEvd
  have hlt := h.src.lt
  have cN := hid (fun most w h h2 => srcN_any b n V most w h h2)
  have cO := hid (fun most w h h2 => one_any b n V most w h h2)
  have cE : Hid (∀ w, Drw w b V n → Calls Tryd.prog 30 #[.pointer (some ⟨b, 0, none⟩)] w fun e w' => ∃ (q0 q1 q2 q3 : Int) (q4 q5 : ByteArray), e = .returned (.agg #[.int .i64 q0, .int .i64 q1, .int .i64 q2, .int .i64 q3, .string q4, .string q5]) ∧ q4.size ≤ 100 ∧ q5.size ≤ 100 ∧ Drw w' b V n ∧ w.grownBy w' (some b)) := by
    show ∀ w, _
    intro w h
    refine (drawEvent_any b n V w h).mono ?_
    rintro e w' ⟨⟨q0, q1, q2, q3, q4, q5⟩, rfl, h⟩
    exact ⟨q0, q1, q2, q3, q4, q5, rfl, h⟩
  have H := hid h
  clear h
  go_enter Tryd.func19, Tryd.ntmps19
  go_wp2_with fail
  have hM := Som.made (W := w) (w := w) H.out (World.grownBy.refl _ _) hlt
  refine (cN.out 6 _ hM.dr (by decide)).mono ?_
  rintro e w1 ⟨r1, rfl, ⟨l1, u1, _⟩, hd1, hg1⟩
  have u1 := u1 (by decide)
  obtain ⟨v1, hv1⟩ : ∃ v, v = Value.slice (some ⟨w.heap.size, 0, none⟩) 0 0 := ⟨_, rfl⟩
  have S1 := hid (hM.call hd1 hg1)
  clear hM hd1 hg1 H
  go_wp2
  go_loopw [3, 4] (fun v kv wr => ∃ (l : List Ev) (k : Int), kv = .int .i64 k ∧ 0 ≤ k ∧ (l.length : Int) + k ≤ 5 ∧ Som w wr b V n v l) (fun _ kv _ => (intOf kv).toNat)
  case atStart => exact ⟨[], r1, rfl, l1, by simp; omega, S1.out⟩
  case round =>
    obtain ⟨l, k, rfl, hk, hlk, hS⟩ := hrel
    obtain ⟨a, c, rfl⟩ := own_forms hS.own
    have S := hid hS
    clear hS S1
    by_cases hless : 0 < k
    · go_wp2_with fail
      refine (cE.out _ S.out.dr).mono ?_
      rintro e w3 ⟨q0, q1, q2, q3, q4, q5, rfl, z1, z2, hd, hg⟩
      have S3 := hid (S.out.call hd hg)
      have hown3 := S3.out.own
      clear hd hg S
      go_wp2_with (at_builtin; refine wpList_append_own _ rfl _ _ 23 rfl w.heap.size 32 i0 _ 6 64 Tryd.underlying23 hi hz0 hz1 hz2 rfl (by decide) _ _ _ rfl (hown3.alloc _) ⟨w3.heap.size, 0, none⟩ 1 1 [.int .i64 q0, .int .i64 q1, .int .i64 q2, .int .i64 q3, .string q4, .string q5] rfl rfl ?c1 ?c2 ?c3 ?c4 ?c5 ?_)
      case c1 => exact new_six w3 ⟨q0, q1, q2, q3, q4, q5⟩ 32
      case c2 => exact ev_one ⟨q0, q1, q2, q3, q4, q5⟩
      case c3 => unfold maxLen; omega
      case c4 => omega
      case c5 => have := S3.out.gr.size; simp; omega
      intro v' w4 hown4 hgrow _
      have S4 := hid ((S3.out.alloc _).app ⟨q0, q1, q2, q3, q4, q5⟩ z1 z2 hown4 hgrow)
      obtain ⟨a', c', rfl⟩ := own_forms hown4
      clear hown3 hown4 hgrow S3
      go_wp2
      go_roundw
      case rel => exact ⟨l ++ [⟨q0, q1, q2, q3, q4, q5⟩], k - 1, rfl, by omega, by simp; omega, S4.out⟩
      case measure => simp [intOf]; omega
    · have hl5 : l.length ≤ 5 := by omega
      go_wp2_with fail
      refine (cO.out 30 _ S.out.dr (by decide)).mono ?_
      rintro e w3 ⟨ro, rfl, hd, hg⟩
      have S3 := hid (S.out.call hd hg)
      clear hd hg S
      cases ro with
      | false =>
        go_wp2
        go_ret
        exact ⟨_, l, rfl, S3.out, by omega⟩
      | true =>
        go_wp2
        go_loopw [3] (fun v wr => ∃ (l : List Ev), l.length ≤ 201 ∧ Som w wr b V n v l) (fun v _ => 201 - lenOf v)
        case atStart => exact ⟨l, by omega, S3.out⟩
        case round =>
          clear hl5 hless hlk S3
          obtain ⟨l, hl, hS⟩ := hrel
          obtain ⟨a, c, rfl⟩ := own_forms hS.own
          have S := hid hS
          clear hS
          go_wp2_with fail
          refine (cN.out 3 _ S.out.dr (by decide)).mono ?_
          rintro e w3 ⟨r3, rfl, ⟨l3, u3, _⟩, hd3, hg3⟩
          have u3 := u3 (by decide)
          have S3 := hid (S.out.call hd3 hg3)
          have hown3 := S3.out.own
          clear hd3 hg3 S
          by_cases hless : (l.length : Int) < 199 + r3
          · go_wp2_with (at_builtin; refine wpList_append_own _ rfl _ _ 23 rfl w.heap.size 32 i0 _ 6 64 Tryd.underlying23 hi hz0 hz1 hz2 rfl (by decide) _ _ _ rfl (hown3.alloc _) ⟨w3.heap.size, 0, none⟩ 1 1 [.int .i64 1, .int .i64 0, .int .i64 1, .int .i64 1, .string ⟨#[]⟩, .string ⟨#[]⟩] rfl rfl ?c1 ?c2 ?c3 ?c4 ?c5 ?_)
            case c1 => exact new_six w3 ⟨1, 0, 1, 1, ⟨#[]⟩, ⟨#[]⟩⟩ 32
            case c2 => exact ev_one ⟨1, 0, 1, 1, ⟨#[]⟩, ⟨#[]⟩⟩
            case c3 => unfold maxLen; omega
            case c4 => omega
            case c5 => have := S3.out.gr.size; simp; omega
            intro v' w4 hown4 hgrow _
            have S4 := hid ((S3.out.alloc _).app ⟨1, 0, 1, 1, ⟨#[]⟩, ⟨#[]⟩⟩ (Nat.zero_le _) (Nat.zero_le _) hown4 hgrow)
            obtain ⟨a', c', rfl⟩ := own_forms hown4
            clear hown3 hown4 hgrow S3
            go_wp2
            go_roundw
            case rel => exact ⟨l ++ [⟨1, 0, 1, 1, ⟨#[]⟩, ⟨#[]⟩⟩], by simp; omega, S4.out⟩
            case measure => simp [lenOf]; omega
          · clear hown3
            go_wp2
            go_ret
            exact ⟨_, l, rfl, S3.out, by omega⟩
end Go.Proofs.YticnffakngpkfaaDoor
