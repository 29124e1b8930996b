/-
  Draws: what (*spec.l01Src).l01Any and spec.DrawPutNum answer: some int64; (*spec.l01Src).bytes: so many bytes; spec.DrawPutText: some text: contracts over the seat's program.
-/
import Derived.Test.YtcjclioockjfhaaDoorSrcD
import Derived.Test.YtcjclioockjfhaaDoorPut
namespace Go.Proofs.YtcjclioockjfhaaDoor
open Go.RowKit

set_option maxHeartbeats 1000000 in
set_option maxRecDepth 100000 in
theorem anyNum_any (b n : Nat) (V : Value) (w : World) (h : Drw w b V n) :
    Calls Tryd.prog 23 #[.pointer (some ⟨b, 0, none⟩)] w fun e w' => ∃ r : Int, e = .returned (.int .i64 r) ∧ InI r ∧ Drw w' b V n ∧ w.grownBy w' (some b) := by
  have cO := hid (one_any b n V 4 w h (by decide))
  clear h
  go_enter Tryd.func23, Tryd.ntmps23
  go_wp2_with fail
  refine cO.out.mono ?_
  rintro e w1 ⟨r, rfl, hd, hg⟩
  have HG := hid hg
  clear hg cO
  cases r with
  | true =>
    have cE := hid (edge_bd b n V w1 hd)
    clear hd
    go_wp2_with fail
    refine cE.out.mono ?_
    rintro e w2 ⟨k, rfl, hk, hd, hg⟩
    have HK := hid hk
    have HD := hid hd
    have HG2 := hid (grown_trans HG.out hg)
    clear hk hd hg cE HG
    go_wp2
    go_ret
    exact ⟨_, rfl, HK.out, HD.out, HG2.out⟩
  | false =>
    have cN := hid (srcN_any b n V 1099511627776 w1 hd (by decide))
    clear hd
    go_wp2_with fail
    refine cN.out.mono ?_
    rintro e w2 ⟨k, rfl, ⟨k0, k1, _⟩, hd, hg⟩
    have k1 := k1 (by decide)
    have HD := hid hd
    have HG2 := hid (grown_trans HG.out hg)
    clear hd hg cN HG
    go_wp2
    go_ret
    exact ⟨_, rfl, ⟨by omega, by omega⟩, HD.out, HG2.out⟩

set_option maxHeartbeats 1000000 in
set_option maxRecDepth 100000 in
theorem drawNum_any (V : Value) (n : Nat) (w : World) (h : Bs w V n) :
    Calls Tryd.prog 5 #[V] w fun e w' => ∃ r : Int, e = .returned (.int .i64 r) ∧ InI r ∧ Below w.heap.size w w' := by
  have cS := hid (source_any V n w h)
  clear h
  go_enter Tryd.func5, Tryd.ntmps5
  go_wp2_with fail
  refine cS.out.mono ?_
  rintro e w1 ⟨b, rfl, hb, hd, hbel⟩
  have cE := hid (anyNum_any b n V w1 hd)
  have HB := hid hbel
  clear hbel hd cS
  go_wp2_with fail
  refine cE.out.mono ?_
  rintro e w2 ⟨r, rfl, hr, _, hg⟩
  have HR := hid hr
  have HB2 := hid (below_src HB.out hb hg)
  clear hr hg cE HB
  go_wp2
  go_ret
  exact ⟨_, rfl, HR.out, HB2.out⟩

/-- Amid a row of bytes: the source, the bytes so far. -/
structure Byt (w wr : World) (b : Nat) (V : Value) (n : Nat) (v : Value) (xs : List Int) : Prop where
  dr : Drw wr b V n
  own : wr.ownsRow w.heap.size 5 1 v xs.length (xs.map (Value.int .u8))
  gr : w.grownBy wr (some b)
  hb : b < w.heap.size
theorem byt_forms {w : World} {base size n : Nat} {e : TypeId} {v : Value} {xs : List Value} (h : w.ownsRow base e size v n xs) : ∃ a c, v = .slice a n c := by
  rcases h.2 with ⟨h0, rfl⟩ | ⟨g, cap, _, hv, _⟩
  · exact ⟨none, 0, h0⟩
  · exact ⟨_, cap, hv⟩
theorem byt_kept {w w' : World} {base size n b : Nat} {e : TypeId} {v : Value} {xs : List Value} (h : w.ownsRow base e size v n xs) (hb : b < base) (hg : w.grownBy w' (some b)) : w'.ownsRow base e size v n xs := by
  refine h.kept hg ?_
  cases hv : v.ownBlock with
  | none => exact .inl rfl
  | some k =>
    have := (h.lt k hv).1
    exact .inr (by simp; omega)
theorem Byt.call {w W W' : World} {b n : Nat} {V v : Value} {l : List Int} (h : Byt w W b V n v l) (hd : Drw W' b V n) (hg : W.grownBy W' (some b)) : Byt w W' b V n v l :=
  ⟨hd, byt_kept h.own h.hb hg, grown_trans h.gr hg, h.hb⟩
theorem Byt.alloc {w W : World} {b n : Nat} {V v : Value} {l : List Int} (h : Byt w W b V n v l) (o : Obj) : Byt w (W.alloc o) b V n v l :=
  ⟨h.dr.stay (r := none) (World.grownBy_alloc W o none) (fun k hk => by cases hk), h.own.alloc o, grown_trans h.gr (World.grownBy_alloc W o _), h.hb⟩
theorem Byt.app {w W W' : World} {b n : Nat} {V v v' : Value} {l : List Int} (h : Byt w W b V n v l) (x : Int) (hown : W'.ownsRow w.heap.size 5 1 v' (l.length + 1) (l.map (Value.int .u8) ++ [.int .u8 x])) (hg : W.grownBy W' v.ownBlock) : Byt w W' b V n v' (l ++ [x]) := by
  refine ⟨h.dr.stay (r := v.ownBlock) hg (fun k hk => ?_), ?_, ⟨hg.os.trans h.gr.os, hg.tape.trans h.gr.tape, hg.output.trans h.gr.output, Nat.le_trans h.gr.size hg.size, fun k hk hr => ?_⟩, h.hb⟩
  · have := (h.own.lt k hk).1
    have := h.hb
    omega
  · rw [List.length_append, List.map_append]; exact hown
  · rw [hg.block k (Nat.lt_of_lt_of_le hk h.gr.size) (fun e => by have := (h.own.lt k e.symm).1; omega)]; exact h.gr.block k hk hr
theorem Byt.made {w : World} {b n : Nat} {V : Value} (hd : Drw w b V n) : Byt w (w.alloc (.cells #[] 5)) b V n (.slice (some ⟨w.heap.size, 0, none⟩) 0 0) [] :=
  ⟨hd.stay (r := none) (World.grownBy_alloc w _ none) (fun k hk => by cases hk), World.ownsRow_made w #[] 0 (Nat.le_refl _) (Nat.zero_le _) rfl, World.grownBy_alloc w _ _, hd.src.lt⟩

set_option maxHeartbeats 1000000 in
set_option maxRecDepth 100000 in
theorem bytes_any (b n : Nat) (V : Value) (m : Int) (w : World) (h : Drw w b V n) (h0 : 0 ≤ m) (h1 : m ≤ 1000) :
    Calls Tryd.prog 30 #[.pointer (some ⟨b, 0, none⟩), .int .i64 m] w fun e w' => ∃ s : ByteArray, e = .returned (.string s) ∧ (s.size : Int) = m ∧ Drw w' b V n ∧ w.grownBy w' (some b) := by
  obtain ⟨i0, hi, hz0, hz1, hz2⟩ := info_parts Tryd.info5
  have cN := hid (fun w h => srcN_any b n V 256 w h (by decide))
  have HM := hid (Byt.made h)
  clear h
  go_enter Tryd.func30, Tryd.ntmps30
  go_wp2
  go_loopw [5, 6] (fun v i wr => ∃ (l : List Int), i = .int .i64 (l.length : Int) ∧ (l.length : Int) ≤ m ∧ Byt w wr b V n v l) (fun _ i _ => (m - intOf i).toNat)
  case atStart => exact ⟨[], rfl, by simpa using h0, HM.out⟩
  case round =>
    obtain ⟨l, rfl, hl, hS⟩ := hrel
    obtain ⟨a, c, rfl⟩ := byt_forms hS.own
    have S := hid hS
    clear hS HM
    by_cases hless : (l.length : Int) < m
    · go_wp2_with fail
      refine (cN.out _ S.out.dr).mono ?_
      rintro e w3 ⟨r, rfl, ⟨r0, r1, _⟩, hd, hg⟩
      have r1 := r1 (by decide)
      have S3 := hid (S.out.call hd hg)
      have hown3 := S3.out.own
      clear hd hg S
      go_wp2_with (at_builtin; refine wpList_append_own _ rfl _ _ 22 rfl w.heap.size 5 i0 (.int .u8 0) 1 1 Tryd.underlying22 hi hz0 hz1 hz2 rfl (by decide) _ _ _ rfl (hown3.alloc _) ⟨w3.heap.size, 0, none⟩ 1 1 [.int .u8 r] rfl rfl ?c1 ?c2 ?c3 ?c4 ?c5 ?_)
      case c1 => exact cell_one_new _ _ _
      case c2 => exact ints_oneCell .u8 [r]
      case c3 => unfold maxLen; omega
      case c4 => omega
      case c5 => have := S3.out.gr.size; simp; omega
      intro v' w4 hown4 hgrow _
      have S4 := hid ((S3.out.alloc _).app r hown4 hgrow)
      obtain ⟨a', c', rfl⟩ := byt_forms hown4
      clear hown3 hown4 hgrow S3
      go_wp2
      go_roundw
      case rel => exact ⟨l ++ [r], by simp, by simp; omega, S4.out⟩
      case measure => simp [intOf]; omega
    · have hcv := conv_own (P := Tryd.prog) (xs := l) 22 9 Tryd.underlying22 Tryd.underlying5 Tryd.underlying9 S.out.own
      go_wp2
      go_ret
      exact ⟨_, rfl, by rw [strOfNums_size]; omega, S.out.dr, S.out.gr⟩
end Go.Proofs.YtcjclioockjfhaaDoor
