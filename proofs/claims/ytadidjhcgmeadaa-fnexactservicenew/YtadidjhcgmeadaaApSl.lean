/-
  append of any slice that came in onto a row of one's own, as an operation by itself. Of no function.
-/
import Derived.Test.YtadidjhcgmeadaaApCe
import Derived.Test.YtadidjhcgmeadaaEvS
import Derived.Test.YtadidjhcgmeadaaOwnC
import Derived.Test.YtadidjhcgmeadaaStLaw
import Derived.Test.YtadidjhcgmeadaaFlLaw
import Derived.Laws.AppendOwnNone
import Derived.Maps.AppendAt
import Derived.OwnWalk
namespace Go.Proofs.Ytadidjhcgmeadaa
open Go.RowKit Go.Sort

theorem Try.infoEvt : (Try.prog.info? 64).map (fun i => (i.zero, i.size, i.bytes)) = some (some (.agg #[.int .i64 0, .int .i64 0, .int .i64 0, .int .i64 0, .string ⟨#[]⟩, .string ⟨#[]⟩]), 6, 64) := by kernel_rfl
theorem own_madeN (w : World) (z : Nat) (T : TypeId) {B : Nat} (hB : B ≤ w.heap.size) : (w.alloc (.cells #[] T)).ownsRow B T z (.slice (some ⟨w.heap.size, 0, none⟩) 0 0) 0 [] :=
  ⟨by simp, .inr ⟨w.heap.size, 0, #[], rfl, hB, by show (w.heap.push (Obj.cells #[] T))[w.heap.size]? = some _; simp, Nat.le_refl _, Nat.zero_le _, by simp, by simp⟩⟩
theorem evs_one (l : List Ev) : ∀ u ∈ l.flatMap Ev.cells, u.oneCell' = true := by
  intro u hu
  obtain ⟨e, _, h⟩ := List.mem_flatMap.1 hu
  simp [Ev.cells] at h
  rcases h with rfl | rfl | rfl | rfl | rfl | rfl <;> rfl
theorem EvsAt.cell {w : World} {g o : Nat} {es : List Ev} (h : EvsAt w g o es) (j : Nat) (u : Value) (hj : (es.flatMap Ev.cells)[j]? = some u) : w.cell? ⟨g, o + j, none⟩ = some u := by
  have hlt : j < es.length * 6 := by have := (List.getElem?_eq_some_iff.1 hj).1; rw [flat_len] at this; exact this
  have hi : j / 6 < es.length := by omega
  have hm : j % 6 < 6 := Nat.mod_lt _ (by decide)
  have hjj : j = j / 6 * 6 + j % 6 := by omega
  have h6 := flat_at es (j / 6) (j % 6) hi hm
  rw [← hjj, hj] at h6
  have ha := h.2 (j / 6) hi
  have hoj : o + j = o + j / 6 * 6 + j % 6 := by omega
  rw [hoj]
  have : j % 6 = 0 ∨ j % 6 = 1 ∨ j % 6 = 2 ∨ j % 6 = 3 ∨ j % 6 = 4 ∨ j % 6 = 5 := by omega
  rcases this with e | e | e | e | e | e <;> rw [e] at h6 ⊢ <;> simp [Ev.cells] at h6 <;> subst h6
  · exact ha.c0
  · exact ha.c1
  · exact ha.c2
  · exact ha.c3
  · exact ha.c4
  · exact ha.c5
theorem EvSl.cellsSl {w : World} {v : Value} {es : List Ev} (h : EvSl w v es) : CellsSl w v 6 es.length (es.flatMap Ev.cells) := by
  refine ⟨flat_len es, evs_one _, ?_⟩
  rcases h with ⟨a, c, rfl, rfl⟩ | ⟨g, o, c, rfl, _, h⟩
  · cases a with
    | none => exact .inl ⟨c, rfl, rfl⟩
    | some a => exact .inr ⟨a, c, rfl, fun j u hj => by simp at hj⟩
  · refine .inr ⟨⟨g, o, none⟩, c, rfl, fun j u hj => ?_⟩
    rw [Addr.add_lit]
    exact h.cell j u hj
theorem wp_append_sl {P : Program} {w : World} {o : Oper} {a : Act} {K : Act → World → Prop} {Q : Exit → Act → World → Prop} (s x : Operand) (t : TypeId)
    (ho : o.op = .call { callee := .builtin .append, args := #[s, x], argTypes := #[t, t] })
    (base : Nat) (e : TypeId) (i : TypeInfo) (z : Value) (size bytes : Nat) (ht : P.underlying t = some (.slice e)) (hi : P.info? e = some i) (hz : i.zero = some z)
    (hsize : i.size = size) (hby : i.bytes = bytes) (hzs : z.cells.size = size) (hsz : 0 < size)
    (v : Value) (n : Nat) (xs : List Value) (hs : a.eval s = v) (hown : w.ownsRow base e size v n xs)
    (m : Nat) (news : List Value) (X : Value) (hx : a.eval x = X) (hX : CellsSl w X size m news)
    (h63 : n + m ≤ maxLen) (hbytes : (n + m) * bytes ≤ 140737488355328) (hbase : base ≤ w.heap.size)
    (h : ∀ v' w', w'.ownsRow base e size v' (n + m) (xs ++ news) → w.grownBy w' v.ownBlock → K (a.put o.dst v') w') : o.wp P a w K Q := by
  obtain ⟨h1, h2, ⟨c, rfl, rfl⟩ | ⟨ad, c, rfl, h3⟩⟩ := hX
  · have hn : news = [] := List.eq_nil_of_length_eq_zero (by simpa using h1)
    subst hn
    have hrun := run_append_own_nil (P := P) (w := w) base t o.type e i size c ht hi v n xs hown
    unfold Oper.wp
    simp [execOp, ho, resolve, invoke, builtin, hs, hx, hrun, Result.andThen]
    exact h v w (by simpa using hown) ⟨rfl, rfl, rfl, Nat.le_refl _, fun _ _ _ => rfl⟩
  · exact wp_append_own w s x t ho base e i z size bytes ht hi hz hsize hby hzs hsz v n xs hs hown ad m c news hx h1 h3 h2 h63 hbytes hbase fun v' w' g1 g2 _ => h v' w' g1 g2
end Go.Proofs.Ytadidjhcgmeadaa
