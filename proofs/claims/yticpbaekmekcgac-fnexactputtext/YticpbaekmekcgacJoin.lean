/-
  Texts put together: what impl.joined answers, for every two texts that are not too great: a contract over the seat's program.
-/
import Derived.Test.YticpbaekmekcgacPut
import Derived.Lib.BufferWrite
import Derived.Laws.CopyOwn
namespace Go.Proofs.Yticpbaekmekcgac.Join
open Go.RowKit Put

theorem wpList_copy_str {P : Program} {w : World} {ops : Array Oper} {rest : List Oper} {o : Oper} {a : Act} {Q : Exit → Act → World → Prop} (hgd : o.guard = none) (d s : Operand) (dT sT : TypeId)
    (ho : o.op = .call { callee := .builtin .copy, args := #[d, s], argTypes := #[dT, sT] }) (elem : TypeId) (hu : P.underlying dT = some (.slice elem)) (hsz : (P.info? elem).map (·.size) = some 1)
    (dp : Option Addr) (dLen dCap : Nat) (hd : a.eval d = .slice dp dLen dCap) (x : ByteArray) (hs : a.eval s = .string x)
    (g off : Nat) (cur : List Value) (t : TypeId) (hg : w.heap[g]? = some (.cells cur.toArray t (0, 0))) (hle : x.size ≤ dLen) (hpos : 0 < x.size → dp = some ⟨g, off, none⟩) (hfit : off + x.size ≤ cur.length)
    (B : Nat) (w0 : World) (hb : Below B w0 w) (hBg : B ≤ g)
    (h : ∀ w', Hid (w'.heap[g]? = some (.cells (splice cur off (Lib.byteCells x.data.toList)).toArray t (0, 0))) → Below B w0 w' → wpList P ops Q rest (a.put o.dst (goInt x.size)) w') :
    wpList P ops Q (o :: rest) a w := by
  refine wpList_plain hgd fun K hK => ?_
  by_cases h0 : x.size = 0
  · have hrun := Lib.run_copy_empty_string (P := P) w dT sT o.type elem dp dLen dCap x hu (by rw [hsz]; rfl) h0
    have hx : x.data.toList = [] := List.eq_nil_of_length_eq_zero (by rw [← Lib.size_eq]; exact h0)
    unfold Oper.wp
    simp [execOp, ho, resolve, invoke, builtin, hd, hs, hrun, Result.andThen]
    refine hK _ _ ?_
    have := h w (show _ = _ by rw [hx]; simpa [splice, Lib.byteCells] using hg) hb
    rwa [h0] at this
  · obtain rfl := hpos (by omega)
    have hrun := Lib.run_copy_row_string (P := P) w dT sT o.type elem g off dLen dCap x cur.toArray t hu hsz hg hle (by simpa using hfit)
    unfold Oper.wp
    simp [execOp, ho, resolve, invoke, builtin, hd, hs, hrun, Result.andThen]
    refine hK _ _ (h _ (show _ = _ by
      have := setRow_heap w g _ (cur.toArray.toList.take off ++ Lib.byteCells x.data.toList ++ cur.toArray.toList.drop (off + x.size)).toArray t _ hg
      simpa [splice, Lib.byteCells_length, ← Lib.size_eq] using this) (below_setRow hb hBg _))

theorem strOfNums_bytes (l : List UInt8) : strOfNums (l.map fun b => (b.toNat : Int)) = ⟨l.toArray⟩ := by
  unfold strOfNums
  congr 2
  rw [List.map_map]
  conv => rhs; rw [← List.map_id l]
  apply List.map_congr_left
  intro b _
  simp
theorem splice_two {α : Type} (Z X Y : List α) (k : Nat) (hk : X.length = k) (hZ : Z.length = k + Y.length) : splice (splice Z 0 X) k Y = X ++ Y := by
  subst hk
  unfold splice
  have e1 : Z.take 0 ++ (X ++ Z.drop (0 + X.length)) = X ++ Z.drop X.length := by simp
  rw [e1]
  have e2 : (X ++ Z.drop X.length).take X.length = X := by simp
  have e3 : (X ++ Z.drop X.length).drop (X.length + Y.length) = [] := List.drop_eq_nil_of_le (by simp; omega)
  rw [e2, e3]; simp
theorem conv_row {P : Program} {w : World} {g n cap : Nat} {e : TypeId} {l : List UInt8} (src dst : TypeId) (hs : P.underlying src = some (.slice e)) (he : P.underlying e = some (.int .u8)) (hd : P.underlying dst = some .string)
    (hn : l.length = n) (h : w.heap[g]? = some (.cells (Lib.byteCells l).toArray e (0, 0))) : (convert src dst (.slice (some ⟨g, 0, none⟩) n cap)).run P w = .ok (.string ⟨l.toArray⟩) w := by
  rw [← strOfNums_bytes]
  refine run_convert_bytes_arg w src e hs he g 0 n cap _ (by simpa using hn) ?_ dst hd
  intro i hi
  have hi' : i < l.length := by omega
  simp [World.cell?, h, Lib.byteCells, hi', List.getD]

theorem append_mk (a b : ByteArray) : ByteArray.mk (a.data.toList ++ b.data.toList).toArray = a ++ b := by
  apply ByteArray.ext
  simp [ByteArray.data_append]

theorem own_row {w : World} {base g n : Nat} {e : TypeId} {xs : List Value} (h : w.ownsRow base e 1 (.slice (some ⟨g, 0, none⟩) n n) n xs) : ∃ L : List Value, L.length = n ∧ w.heap[g]? = some (.cells L.toArray e (0, 0)) := by
  rcases h.2 with ⟨h1, _⟩ | ⟨g', cap, cur, h1, _, hh, _, _, hc, _⟩
  · cases h1
  · injection h1 with h1 _ h3
    injection h1 with h1
    injection h1 with h1 _ _
    subst h1; subst h3
    exact ⟨cur.toList, by simpa using hc, by simpa using hh⟩
theorem row_one {w : World} {g : Nat} {e : TypeId} {L : List Value} {x : ByteArray} (hL : L.length = x.size)
    (h : w.heap[g]? = some (.cells (splice L 0 (Lib.byteCells x.data.toList)).toArray e (0, 0))) :
    w.heap[g]? = some (.cells (Lib.byteCells x.data.toList).toArray e (0, 0)) := by
  have e : splice L 0 (Lib.byteCells x.data.toList) = Lib.byteCells x.data.toList := by
    unfold splice
    rw [List.drop_eq_nil_of_le (by rw [Lib.byteCells_length, ← Lib.size_eq]; omega)]; simp
  rw [e] at h; exact h
theorem row_empty {w : World} {g : Nat} {e : TypeId} {L : List Value} (h : w.heap[g]? = some (.cells (splice L 0 (Lib.byteCells ByteArray.empty.data.toList)).toArray e (0, 0))) : w.heap[g]? = some (.cells L.toArray e (0, 0)) := by
  rw [h]; simp [splice, Lib.byteCells]
theorem row_two {w : World} {g : Nat} {e : TypeId} {L : List Value} {x y : ByteArray} (hL : L.length = x.size + y.size)
    (h : w.heap[g]? = some (.cells (splice (splice L 0 (Lib.byteCells x.data.toList)) x.size (Lib.byteCells y.data.toList)).toArray e (0, 0))) :
    w.heap[g]? = some (.cells (Lib.byteCells (x.data.toList ++ y.data.toList)).toArray e (0, 0)) := by
  rw [splice_two _ _ _ _ (by rw [Lib.byteCells_length, ← Lib.size_eq]) (by rw [hL, Lib.byteCells_length, ← Lib.size_eq])] at h
  rw [h]; simp [Lib.byteCells]
set_option maxRecDepth 100000 in
set_option maxHeartbeats 400000 in
theorem joined_some (x y : ByteArray) (w : World) (hx : x.size ≤ 1099511627776) (hy : y.size ≤ 1099511627776) (hy0 : ¬ y = ByteArray.empty) :
    Calls Try.prog 18 #[.string x, .string y] w fun e w' => e = .returned (.string (x ++ y)) ∧ Below w.heap.size w w' := by
  obtain ⟨i0, hi, hz0, hz1, hz2⟩ := info_parts Try.info5
  go_enter Try.func18, Try.ntmps18
  go_wp2_with (at_make; refine wpList_make_full _ rfl _ _ 29 rfl w.heap.size 5 i0 (.int .u8 0) 1 Try.underlying29 hi hz0 hz1 _ _ _ _ (x.size + y.size) rfl rfl ?m1 ?m2 ?m3 ?m4 (Nat.le_refl _) ?_)
  case m1 => omega
  case m2 => omega
  case m3 => rw [hz2]; omega
  case m4 => unfold maxLen; omega
  intro w1 hown hgrow
  obtain ⟨L, hL, hG⟩ := own_row hown
  have hB1 : Below w.heap.size w w1 := (Below.refl _ _).grown hgrow (Nat.le_refl _) (fun k h => by cases h)
  have hinfo : (Try.prog.info? 5).map (·.size) = some 1 := by rw [hi]; simp [hz1]
  have HL := hid hL
  have HG := hid hG
  clear hown hgrow hi hz0 hz1 hz2 hL hG i0
  go_wp2_with (first | (refine wpList_copy_str rfl (.tmp 13) (.tmp 14) 29 9 rfl 5 Try.underlying29 hinfo _ _ _ rfl x rfl w.heap.size 0 L 5 HG.out (by omega) (fun _ => rfl) (by have := HL.out; omega) w.heap.size w hB1 (Nat.le_refl _) ?_; intro w2 HG2 hB2) | (refine wpList_copy_str rfl (.tmp 18) (.tmp 19) 29 9 rfl 5 Try.underlying29 hinfo _ _ _ rfl y rfl w.heap.size x.size (splice L 0 (Lib.byteCells x.data.toList)) 5 HG2.out ?c1 ?c2 ?c3 w.heap.size w hB2 (Nat.le_refl _) ?_))
  case c1 => omega
  case c3 => rw [length_splice _ _ _ (by rw [Lib.byteCells_length, ← Lib.size_eq, HL.out]; omega), HL.out]; exact Nat.le_refl _
  intro w3 HG3 hB3
  have hcv := conv_row (P := Try.prog) (cap := x.size + y.size) (g := w.heap.size) (l := x.data.toList ++ y.data.toList) 29 9 Try.underlying29 Try.underlying5 Try.underlying9 (by rw [List.length_append, ← Lib.size_eq, ← Lib.size_eq]) (row_two HL.out HG3.out)
  rw [append_mk] at hcv
  go_wp2
  go_ret
  exact ⟨rfl, hB3⟩
set_option maxRecDepth 100000 in
set_option maxHeartbeats 400000 in
theorem joined_none (x : ByteArray) (w : World) (hx : x.size ≤ 1099511627776) :
    Calls Try.prog 18 #[.string x, .string ByteArray.empty] w fun e w' => e = .returned (.string x) ∧ Below w.heap.size w w' := by
  obtain ⟨i0, hi, hz0, hz1, hz2⟩ := info_parts Try.info5
  go_enter Try.func18, Try.ntmps18
  go_wp2_with (at_make; refine wpList_make_full _ rfl _ _ 29 rfl w.heap.size 5 i0 (.int .u8 0) 1 Try.underlying29 hi hz0 hz1 _ _ _ _ x.size rfl rfl ?m1 ?m2 ?m3 ?m4 (Nat.le_refl _) ?_)
  case m1 => omega
  case m2 => omega
  case m3 => rw [hz2]; omega
  case m4 => unfold maxLen; omega
  intro w1 hown hgrow
  obtain ⟨L, hL, hG⟩ := own_row hown
  have hB1 : Below w.heap.size w w1 := (Below.refl _ _).grown hgrow (Nat.le_refl _) (fun k h => by cases h)
  have hinfo : (Try.prog.info? 5).map (·.size) = some 1 := by rw [hi]; simp [hz1]
  have HL := hid hL
  have HG := hid hG
  clear hown hgrow hi hz0 hz1 hz2 hL hG i0
  go_wp2_with (first | (refine wpList_copy_str rfl (.tmp 13) (.tmp 14) 29 9 rfl 5 Try.underlying29 hinfo _ _ _ rfl x rfl w.heap.size 0 L 5 HG.out (by omega) (fun _ => rfl) (by have := HL.out; omega) w.heap.size w hB1 (Nat.le_refl _) ?_; intro w2 HG2 hB2) | (refine wpList_copy_str rfl (.tmp 18) (.tmp 19) 29 9 rfl 5 Try.underlying29 hinfo _ _ _ rfl ByteArray.empty rfl w.heap.size 0 (splice L 0 (Lib.byteCells x.data.toList)) 5 HG2.out (Nat.zero_le _) (fun h => absurd h (by decide)) (Nat.zero_le _) w.heap.size w hB2 (Nat.le_refl _) ?_; intro w3 HG3 hB3; have hcv := conv_row (P := Try.prog) (cap := x.size) (g := w.heap.size) (l := x.data.toList) 29 9 Try.underlying29 Try.underlying5 Try.underlying9 (by rw [← Lib.size_eq]) (row_one HL.out (row_empty HG3.out))))
  go_ret
  exact ⟨rfl, hB3⟩
theorem joined_any (x y : ByteArray) (w : World) (hx : x.size ≤ 1099511627776) (hy : y.size ≤ 1099511627776) :
    Calls Try.prog 18 #[.string x, .string y] w fun e w' => e = .returned (.string (x ++ y)) ∧ Below w.heap.size w w' := by
  by_cases h : y = ByteArray.empty
  · subst h
    have := joined_none x w hx
    rwa [show x ++ ByteArray.empty = x by simp]
  · exact joined_some x y w hx hy h
end Go.Proofs.Yticpbaekmekcgac.Join
