/-
  Texts put together: ItsC, RowL.
-/
import Derived.Test.YthggcdadipjiiaaGreatDoorZItr6
import Derived.Test.YthggcdadipjiiaaGreatDoorZShStr5
import Derived.Test.YthggcdadipjiiaaGreatDoorZSpDo24
import Derived.Test.YthggcdadipjiiaaGreatDoorZEvT5
import Derived.Test.YthggcdadipjiiaaGreatDoorZEvC6
import Derived.Test.YthggcdadipjiiaaGreatDoorZKeyM3
import Derived.Sort.OwnSorted
/-
  slices.Sorted(slices.Values(..)) over texts: the texts, in their order, in a new row: contracts over the seat's program.
-/
namespace Go.Proofs.YthggcdadipjiiaaGreatDoor
open Go.RowKit Go.Shelf Go.Sort
attribute [local go_sem] Oper.semAt_some

abbrev tyS : List TypeId := [23, 9]
theorem strS_new_cell (V : World) (x : ByteArray) (T : TypeId) : ∀ j u, [Value.string x][j]? = some u → (V.alloc (.cells #[.string x] T)).cell? ((⟨V.heap.size, 0, none⟩ : Addr).add j) = some u := by
  intro j u hj
  rw [Addr.add_lit, Lib.cell_of_heap (heap_alloc_new _ _), Nat.zero_add, ← hj]
  simp
theorem map_take_succ {α β : Type} (f : α → β) {l : List α} {k : Nat} (h : k < l.length) : (l.take (k + 1)).map f = (l.take k).map f ++ [f l[k]] := by
  rw [List.take_succ_eq_append_getElem h, List.map_append]; rfl
theorem enc_txt (l : List ByteArray) : (l.map txt).map encStr = l.map Value.string := by
  rw [List.map_map]
  exact List.map_congr_left fun s _ => rfl
set_option maxRecDepth 100000 in
set_option maxHeartbeats 4000000 in
theorem appendSeqS_any (g n₀ : Nat) (lb : Array Value) (xs : List ByteArray) (w : World) (eg : ∀ args w, (callFunc g args).run Tryz.prog w = .ok (.enter g args) w) (hS : Sq tyS Tryz.prog g lb strA n₀ xs w) (hn₀ : n₀ ≤ w.heap.size) (hn : xs.length ≤ 1048576) :
    Calls Tryz.prog 89 #[.slice none 0 0, .func (.func g) #[] lb] w fun e w' => ∃ v, e = .returned v ∧ w'.ownsRow w.heap.size 9 1 v xs.length (xs.map Value.string) ∧ Below w.heap.size w w' := by
  have HS := hid hS
  clear hS
  obtain ⟨i0, hi, hz0, hz1, hz2⟩ := info_parts Tryz.infoStr
  refine (callsIn_wide (n := 9)).1 ?_
  refine callsIn_of_wp_marks Tryz.func89 rfl trivial ?_ rfl
  simp only [Tryz.ntmps89, List.size_toArray, List.length_cons, List.length_nil, Nat.reduceAdd, Nat.reduceSub, Array.replicate_succ, Array.replicate_zero, List.push_toArray, List.append_toArray, List.nil_append, List.cons_append]
  gi_wp2
  have HB1 := hid ((Below.refl w.heap.size w).alloc (Nat.le_refl _) (.cells #[.slice none 0 0] 23))
  have hc := heap_alloc_new w (.cells #[.slice none 0 0] 23)
  have hz : (w.alloc (.cells #[.slice none 0 0] 23)).heap.size = w.heap.size + 1 := by simp
  generalize w.alloc (.cells #[.slice none 0 0] 23) = W1 at *
  refine wpIn_sq (gf := g) (lb := lb) rfl eg HS.out HB1.out (by omega) (fun _ => rfl)
    (fun k V => ∃ v, V.heap[w.heap.size]? = some (.cells #[v] 23 (0, 0)) ∧ V.ownsRow w.heap.size 9 1 v k ((xs.take k).map Value.string) ∧ Below w.heap.size w V)
    ?own ⟨_, hc, World.ownsRow_nil _ _ _ _, HB1.out⟩
    (fun x a' V => a' = { tmps := #[.slice none 0 0, .func (.func g) #[] lb, .pointer (some ⟨w.heap.size, 0, none⟩), undef, .slice none 0 0, .string x, .func (.func g) #[] lb, .string x, undef, undef, undef, undef, undef], defers := [] })
    ?ownx ?assign ?body ?done
  case own =>
    rintro s A B row ⟨v, h1, h2, h3⟩ hg hr
    refine ⟨v, own_blk _ _ _ _ _ 0 A B row h1 hg hr, h2.kept hg ?_, own_below (Nat.le_refl _) (by omega) 0 A B row h3 hg hr⟩
    rcases h2.2 with ⟨rfl, _⟩ | ⟨b, cap, cur, rfl, _, hgb, _⟩
    · exact .inl rfl
    · refine .inr fun e => ?_
      obtain ⟨o, ho, hc⟩ := (hr b e.symm).2
      rw [hgb] at ho
      cases ho
      cases hc
  case ownx =>
    rintro x a' s A B row h hg hr
    exact h
  case assign =>
    rintro l' k x V K ⟨v, h1, h2, h3⟩ hx hK
    have HK := hid hK
    clear hK
    gi_wp2
    exact HK.out _ _ (KeepsT.refl _ _) (Below.refl _ V) ⟨v, h1, h2, h3⟩ rfl
  case body =>
    rintro l' k x a' V hl ⟨v, h1, hr, hb⟩ rfl hx
    obtain ⟨hlt, hxe⟩ := List.getElem?_eq_some_iff.1 hx
    have HF := hid (map_take_succ Value.string hlt)
    rw [hxe] at HF
    obtain ⟨va, vc, rfl⟩ := ownB_form hr
    have HR := hid (hr.alloc (.cells #[.string x] 9))
    have HR0 := hid hr
    have H1 := hid h1
    have HBv := hid hb
    have hzv := hb.size
    have d0 : V.cell? ⟨w.heap.size, 0, none⟩ = some (.slice va k vc) := by rw [Lib.cell_of_heap h1]; rfl
    clear hr h1 hb hx hxe
    generalize (xs.take k).map Value.string = L at *
    gi_wp2_with (gi_at_builtin; refine wpListIn_append_own _ rfl _ _ 23 rfl w.heap.size 9 i0 _ 1 16 Tryz.underlying23 hi hz0 hz1 hz2 rfl (by decide) _ _ _ rfl HR.out ⟨V.heap.size, 0, none⟩ 1 1 [.string x] rfl rfl ?c1 ?c0 ?c2 ?c3 ?c4 ?_)
    case c1 => exact strS_new_cell V x _
    case c0 => simp [Value.oneCell']
    case c2 => unfold maxLen; omega
    case c3 => omega
    case c4 => simp; omega
    intro v' w1 ho hg _
    have hA := (Below.heap_alloc V (.cells #[.string x] 9) _ (lt_heap H1.out)).trans H1.out
    have hne := own_ne HR.out hA (by decide)
    have hbox : w1.heap[w.heap.size]? = some (.cells #[.slice va k vc] 23 (0, 0)) := (hg.block _ (lt_heap hA) (fun e => hne _ e.symm rfl)).trans hA
    obtain ⟨ua, uc, rfl⟩ := ownB_form ho
    have hne1 := own_ne ho hbox (by decide)
    have HBX := hid hbox
    have HKT : Hid (KeepsT tyS V w1) := hid ((KeepsT.alloc _ V _).trans (KeepsT.grown hg (fun j e => by
      obtain ⟨c, t, f, h1, h2⟩ := own_type HR.out j e
      exact ⟨c, t, f, h1, by subst h2; decide⟩)))
    have HBL : Hid (Below w.heap.size V w1) := hid (((Below.refl w.heap.size V).alloc hzv _).grown hg (by simp; omega) (fun j e => (HR.out.lt j e).1))
    have HO := hid ho
    have HNE := hid hne1
    have d1 : w1.cell? ⟨w.heap.size, 0, none⟩ = some (.slice va k vc) := by rw [Lib.cell_of_heap hbox]; rfl
    have d2 := Lib.frozen_of_heap hbox
    clear hA hne hbox ho hg hne1 d0
    gi_wp2_with fail
    refine ⟨HKT.out.trans (KeepsT.grown (grown_set w1 w.heap.size 0 _) (fun j e => by cases e; exact ⟨_, _, _, HBX.out, by decide⟩)), (HBL.out.setCell (p := ⟨w.heap.size, 0, none⟩) (Nat.le_refl _) _).mono hn₀, _, blk_set (L := [_]) HBX.out _, ?_, HBv.out.trans (HBL.out.setCell (p := ⟨w.heap.size, 0, none⟩) (Nat.le_refl _) _)⟩
    rw [HF.out]
    exact HO.out.kept (grown_set w1 w.heap.size 0 _) (.inr (fun e => HNE.out _ e rfl))
  case done =>
    rintro D V hD ⟨v, h1, hr, hb⟩ hK
    obtain ⟨va, vc, rfl⟩ := ownB_form hr
    have d0 : V.cell? ⟨w.heap.size, 0, none⟩ = some (.slice va xs.length vc) := by rw [Lib.cell_of_heap h1]; rfl
    gi_wp2
    refine ⟨by simp, .inl ⟨_, _, rfl, run_takeDeferred hK, ?_⟩⟩
    rw [List.take_length] at hr
    exact ⟨_, results_tmp rfl _ _ _, _, rfl, ownsRow_putObj hr _ hK rfl, hb.trans (belowK_b (w := w) (Nat.le_refl _) V D _ _ (by omega) hK rfl rfl)⟩

set_option maxRecDepth 100000 in
theorem collectS_any (g n₀ : Nat) (lb : Array Value) (xs : List ByteArray) (w : World) (eg : ∀ args w, (callFunc g args).run Tryz.prog w = .ok (.enter g args) w) (hS : Sq tyS Tryz.prog g lb strA n₀ xs w) (hn₀ : n₀ ≤ w.heap.size) (hn : xs.length ≤ 1048576) :
    Calls Tryz.prog 60 #[.func (.func g) #[] lb] w fun e w' => ∃ v, e = .returned v ∧ w'.ownsRow w.heap.size 9 1 v xs.length (xs.map Value.string) ∧ Below w.heap.size w w' := by
  have c := appendSeqS_any g n₀ lb xs w eg hS hn₀ hn
  go_enter Tryz.func60, Tryz.ntmps60
  go_wp2_with fail
  refine c.mono ?_
  rintro e w' ⟨v, rfl, ho, hb⟩
  go_wp2
  go_ret
  exact ⟨_, rfl, ho, hb⟩
set_option maxRecDepth 100000 in
theorem sortedS_any (g n₀ : Nat) (lb : Array Value) (xs st : List ByteArray) (w : World) (eg : ∀ args w, (callFunc g args).run Tryz.prog w = .ok (.enter g args) w) (hS : Sq tyS Tryz.prog g lb strA n₀ xs w) (hn₀ : n₀ ≤ w.heap.size) (hn : xs.length ≤ 1048576) (hst : st.map txt = srt (xs.map txt)) :
    Calls Tryz.prog 23 #[.func (.func g) #[] lb] w fun e w' => ∃ v, e = .returned v ∧ w'.ownsRow w.heap.size 9 1 v st.length (st.map Value.string) ∧ Below w.heap.size w w' := by
  have c := collectS_any g n₀ lb xs w eg hS hn₀ hn
  have hlen : st.length = xs.length := by have := congrArg List.length hst; rw [srt_len, List.length_map, List.length_map] at this; exact this
  go_enter Tryz.func23, Tryz.ntmps23
  go_wp2_with fail
  refine c.mono ?_
  rintro e W ⟨v, rfl, hrow, hb⟩
  rw [← enc_txt] at hrow
  rcases hrow.2 with ⟨rfl, hz⟩ | ⟨gb, cap, cur, rfl, hbase, hgb, r1, r2, r3, r4⟩
  · have hss : xs = [] := List.eq_nil_of_length_eq_zero hz
    subst hss
    obtain rfl : st = [] := List.eq_nil_of_length_eq_zero hlen
    have cS : Calls Tryz.prog 61 #[.slice none 0 0] W fun e w' => e = .returned (.tuple #[]) ∧ w' = W := AnyM.slices_Sort_string_none Shs.sortA none 0 W
    clear c
    go_wp2_with fail
    refine cS.mono ?_
    rintro e w1 ⟨rfl, rfl⟩
    go_wp2
    go_ret
    exact ⟨_, rfl, World.ownsRow_nil _ _ _ _, hb⟩
  · have hH : Holds encStr W gb 0 (xs.map txt).toArray := holds_of_block hgb (by simpa using r4)
    have hgl : gb < W.heap.size := (Array.getElem?_eq_some_iff.1 hgb).1
    have cS := AnyM.slices_Sort_string Shs.sortA gb 0 cap (xs.map txt) W hH hgl (by rw [List.length_map]; omega)
    rw [List.length_map] at cS
    have HOS := hid (fun n os => ownsRow_sorted (w := W) (base := w.heap.size) (g := gb) (cap := cap) (n := n) (e := 9) (os := os) (cur := cur) (ss := xs.map txt) (ts := (xs.map txt).mergeSort (fun x y => decide (x ≤ y))) (by simp) hbase hgb (by rw [List.length_map]; exact r1) r2 r3)
    have HGS := hid (fun n os => grownBy_sorted (w := W) (g := gb) (n := n) (os := os) ((xs.map txt).mergeSort fun x y => decide (x ≤ y)).toArray)
    have HB := hid hb
    have HST := hid (show ((xs.map txt).mergeSort fun x y => decide (x ≤ y)).map encStr = st.map Value.string from by rw [← enc_txt st, hst]; rfl)
    change Calls Tryz.prog 61 _ _ _ at cS
    clear hb hrow hH c hst
    generalize ((xs.map txt).mergeSort fun x y => decide (x ≤ y)) = tt at *
    go_wp2_with fail
    refine cS.mono ?_
    rintro e w1 ⟨rfl, n, os, rfl⟩
    have HO := hid (HOS.out n os)
    have HB1 := hid (HB.out.grown (HGS.out n os) HB.out.size (fun j e => by cases e; exact hbase))
    generalize grow (putRow encStr (Sort.ahead W n) gb 0 tt.toArray) os = W1 at *
    go_wp2
    go_ret
    refine ⟨.slice (some ⟨gb, 0, none⟩) xs.length cap, rfl, ?_, HB1.out⟩
    have := HO.out
    rw [HST.out, List.length_map] at this
    rw [hlen]
    exact this
end Go.Proofs.YthggcdadipjiiaaGreatDoor

/-
  A row of one's own whose slice may be cut short of the room behind it. Of no function.
-/
namespace Go.Proofs.YthggcdadipjiiaaGreatDoor
open Go.RowKit

def RowL (w : World) (base : Nat) (e : TypeId) (size : Nat) (v : Value) (n : Nat) (xs : List Value) : Prop :=
  xs.length = n * size ∧ (∃ a c, v = .slice a n c) ∧ (0 < n → ∃ (g cap : Nat) (L : List Value), v = .slice (some ⟨g, 0, none⟩) n cap ∧ base ≤ g ∧ w.heap[g]? = some (.cells L.toArray e (0, 0)) ∧ n * size ≤ L.length ∧ L.take (n * size) = xs)
theorem RowL.of_own {w : World} {base size n : Nat} {e : TypeId} {v : Value} {xs : List Value} (h : w.ownsRow base e size v n xs) : RowL w base e size v n xs := by
  refine ⟨h.1, ?_, fun h0 => ?_⟩
  · rcases h.2 with ⟨rfl, rfl⟩ | ⟨g, cap, cur, rfl, _⟩
    · exact ⟨_, _, rfl⟩
    · exact ⟨_, _, rfl⟩
  · rcases h.2 with ⟨rfl, rfl⟩ | ⟨g, cap, cur, rfl, hb, hh, h1, h2, h3, h4⟩
    · omega
    · refine ⟨g, cap, cur.toList, rfl, hb, by simpa using hh, ?_, h4⟩
      have := Nat.mul_le_mul_right size h1
      simp [h3]; omega
theorem RowL.stay {w w' : World} {base size n : Nat} {e : TypeId} {v : Value} {xs : List Value} (h : RowL w base e size v n xs) (hb : Below w.heap.size w w') : RowL w' base e size v n xs :=
  ⟨h.1, h.2.1, fun h0 => let ⟨g, cap, L, e1, e2, e3, e4⟩ := h.2.2 h0; ⟨g, cap, L, e1, e2, (hb.block g (Array.getElem?_eq_some_iff.1 e3).1).trans e3, e4⟩⟩
theorem RowL.le {w : World} {base base' size n : Nat} {e : TypeId} {v : Value} {xs : List Value} (h : RowL w base e size v n xs) (hb : base' ≤ base) : RowL w base' e size v n xs :=
  ⟨h.1, h.2.1, fun h0 => let ⟨g, cap, L, e1, e2, e3⟩ := h.2.2 h0; ⟨g, cap, L, e1, Nat.le_trans hb e2, e3⟩⟩
theorem RowL.chg {p : Nat → Prop} {w w' : World} {base size n : Nat} {e : TypeId} {v : Value} {xs : List Value} (h : RowL w base e size v n xs) (hc : Chg p w w') (hp : ∀ (g : Nat) (c : Array Value), base ≤ g → w.heap[g]? = some (Obj.cells c e (0, 0)) → ¬ p g) : RowL w' base e size v n xs :=
  ⟨h.1, h.2.1, fun h0 => let ⟨g, cap, L, e1, e2, e3, e4⟩ := h.2.2 h0; ⟨g, cap, L, e1, e2, (hc.block g (Array.getElem?_eq_some_iff.1 e3).1 (hp g _ e2 e3)).trans e3, e4⟩⟩
theorem RowL.sl {w : World} {base : Nat} {e : TypeId} {v : Value} {es : List Ev} (h : RowL w base e 6 v es.length (es.flatMap Ev.cells)) : EvSl w v es := by
  by_cases h0 : 0 < es.length
  · obtain ⟨g, cap, L, rfl, _, hh, hL, ht⟩ := h.2.2 h0
    refine .inr ⟨g, 0, cap, rfl, h0, (Array.getElem?_eq_some_iff.1 hh).1, ?_⟩
    have key : ∀ (es : List Ev) (L : List Value) (i j : Nat) (hi : i < es.length), L.take (es.length * 6) = es.flatMap Ev.cells → j < 6 → L[i * 6 + j]? = es[i].cells[j]? := by
      intro es
      induction es with
      | nil => intro L i j hi; simp at hi
      | cons x r ih =>
        intro L i j hi hL hj
        have hx : x.cells.length = 6 := rfl
        have h1 : (L.take ((x :: r).length * 6))[i * 6 + j]? = L[i * 6 + j]? := by
          rw [List.getElem?_take, if_pos (by simp at hi ⊢; omega)]
        rw [← h1, hL, List.flatMap_cons]
        cases i with
        | zero => rw [List.getElem?_append_left (by rw [hx]; omega)]; simp
        | succ i =>
          rw [List.getElem?_append_right (by rw [hx]; omega), hx]
          have h2 := ih (L.drop 6) i j (by simpa using hi) (by
            have : (L.drop 6).take (r.length * 6) = (L.take ((x :: r).length * 6)).drop 6 := by rw [List.drop_take]; congr 1; simp; omega
            rw [this, hL, List.flatMap_cons, List.drop_append, hx]; simp [hx]) hj
          have h3 : ((r.flatMap Ev.cells))[i * 6 + j]? = (L.drop 6)[i * 6 + j]? := by
            have : (L.drop 6).take (r.length * 6) = r.flatMap Ev.cells := by
              have h4 : (L.drop 6).take (r.length * 6) = (L.take ((x :: r).length * 6)).drop 6 := by rw [List.drop_take]; congr 1; simp; omega
              rw [h4, hL, List.flatMap_cons, List.drop_append, hx]; simp [hx]
            rw [← this, List.getElem?_take, if_pos (by simp at hi; omega)]
          rw [show (i + 1) * 6 + j - 6 = i * 6 + j by omega, h3, h2]; simp
    intro i hi
    have c : ∀ j, j < 6 → w.cell? ⟨g, 0 + i * 6 + j, none⟩ = es[i].cells[j]? := fun j hj => by
      rw [Lib.cell_of_heap hh, Nat.zero_add, ← key es L i j hi ht hj]; simp
    exact ⟨c 0 (by decide), c 1 (by decide), c 2 (by decide), c 3 (by decide), c 4 (by decide), c 5 (by decide)⟩
  · obtain ⟨a, c, rfl⟩ := h.2.1
    have : es = [] := List.eq_nil_of_length_eq_zero (by omega)
    subst this
    exact .inl ⟨a, c, rfl, rfl⟩
end Go.Proofs.YthggcdadipjiiaaGreatDoor
