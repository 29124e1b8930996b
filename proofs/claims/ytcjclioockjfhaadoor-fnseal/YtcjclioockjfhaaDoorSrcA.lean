/-
  Draws: what (*spec.l01Src).n, one, pick and edge answer: contracts over the seat's program.
-/
import Derived.Test.YtcjclioockjfhaaDoorSrc
namespace Go.Proofs.YtcjclioockjfhaaDoor
open Go.RowKit

theorem Bs.stay {w w' : World} {V : Value} {n b : Nat} (h : Bs w V n) (hg : w.grownBy w' (some b)) (hne : ∀ g o c, V = .slice (some ⟨g, o, none⟩) n c → 0 < n → g ≠ b) : Bs w' V n := by
  obtain ⟨a, c, rfl, hn, h⟩ := h
  refine ⟨a, c, rfl, hn, fun i hi => ?_⟩
  obtain ⟨g, o, x, rfl, hg1, hc, hx⟩ := h i hi
  have hgb : g ≠ b := hne g o c rfl (by omega)
  refine ⟨g, o, x, rfl, Nat.lt_of_lt_of_le hg1 hg.size, ?_, hx⟩
  rw [World.cell?_of_block (w := w) (a := ⟨g, o + i, none⟩) (hg.block g hg1 (by simpa using hgb))]; exact hc
/-- A source and its bytes. -/
structure Drw (w : World) (b : Nat) (V : Value) (n : Nat) : Prop where
  src : SrcAt w b V n
  bs : Bs w V n
  far : ∀ g o c, V = .slice (some ⟨g, o, none⟩) n c → 0 < n → g < b
theorem Drw.next {w w' : World} {b n : Nat} {V : Value} (h : Drw w b V n) (hs : SrcAt w' b V n) (hg : w.grownBy w' (some b)) : Drw w' b V n :=
  ⟨hs, h.bs.stay hg (fun g o c e h0 => by have := h.far g o c e h0; omega), h.far⟩
/-- Another block set, or new memory: the source stays. -/
theorem Drw.stay {w w' : World} {b n : Nat} {V : Value} {r : Option Nat} (h : Drw w b V n) (hg : w.grownBy w' r) (hr : ∀ k, r = some k → b < k) : Drw w' b V n := by
  refine ⟨h.src.of_block (hg.block b h.src.lt (fun e => by have := hr b e.symm; omega)), ?_, h.far⟩
  obtain ⟨a, c, rfl, hn, hb⟩ := h.bs
  refine ⟨a, c, rfl, hn, fun i hi => ?_⟩
  obtain ⟨g, o, x, rfl, hg1, hc, hx⟩ := hb i hi
  have hgb := h.far g o c rfl (by omega)
  refine ⟨g, o, x, rfl, Nat.lt_of_lt_of_le hg1 hg.size, ?_, hx⟩
  rw [World.cell?_of_block (w := w) (a := ⟨g, o + i, none⟩) (hg.block g hg1 (fun e => by have := hr g e.symm; omega))]; exact hc
theorem Drw.below {w w' : World} {b n : Nat} {V : Value} (h : Drw w b V n) (hb : Below w.heap.size w w') : Drw w' b V n := h.stay (r := none) (grown_below hb) (fun k hk => by cases hk)

/-- A number below most. -/
def Blw (most r : Int) : Prop := 0 ≤ r ∧ (1 < most → r < most) ∧ (most ≤ 1 → r = 0)
theorem srcN_any (b n : Nat) (V : Value) (most : Int) (w : World) (h : Drw w b V n) (h2 : most ≤ 1099511627776) :
    Calls Tryd.prog 29 #[.pointer (some ⟨b, 0, none⟩), .int .i64 most] w fun e w' => ∃ r : Int, e = .returned (.int .i64 r) ∧ Blw most r ∧ Drw w' b V n ∧ w.grownBy w' (some b) := by
  by_cases h1 : 1 < most
  · obtain ⟨at', mix, size, hat, hm0, hm1, hb⟩ := h.src
    obtain ⟨a, c, rfl, hn, hbs⟩ := h.bs
    by_cases hlt : at' < n
    · obtain ⟨g, o, x, rfl, _, hc, hx0, hx1⟩ := hbs at' hlt
      refine (srcN_some b n at' g o c mix size most x w hn h1 h2 hb hlt hc hx0 hx1).mono ?_
      rintro e w' ⟨r, rfl, r0, r1, hs, hg⟩
      exact ⟨r, rfl, ⟨r0, fun _ => r1, fun x => by omega⟩, h.next hs hg, hg⟩
    · refine (srcN_none b n at' a c mix size most w hat h1 h2 hb (by omega)).mono ?_
      rintro e w' ⟨r, rfl, r0, r1, hs, hg⟩
      exact ⟨r, rfl, ⟨r0, fun _ => r1, fun x => by omega⟩, h.next hs hg, hg⟩
  · have H := hid h
    clear h
    go_enter Tryd.func29, Tryd.ntmps29
    go_wp2
    go_ret
    exact ⟨0, rfl, ⟨by decide, fun x => by omega, fun _ => rfl⟩, H.out, World.grownBy.refl _ _⟩
theorem one_any (b n : Nat) (V : Value) (most : Int) (w : World) (h : Drw w b V n) (h2 : most ≤ 1099511627776) :
    Calls Tryd.prog 28 #[.pointer (some ⟨b, 0, none⟩), .int .i64 most] w fun e w' => ∃ r : Bool, e = .returned (.bool r) ∧ Drw w' b V n ∧ w.grownBy w' (some b) := by
  have c1 := hid (srcN_any b n V most w h h2)
  clear h
  go_enter Tryd.func28, Tryd.ntmps28
  go_wp2_with fail
  refine c1.out.mono ?_
  rintro e w1 ⟨r, rfl, _, hd, hg⟩
  have HD := hid hd
  have HG := hid hg
  clear hd hg
  go_wp2
  go_ret
  exact ⟨_, rfl, HD.out, HG.out⟩
end Go.Proofs.YtcjclioockjfhaaDoor
