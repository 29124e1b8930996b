/-
  Queries: what impl.QueryRead answers: a contract over the seat's program.
-/
import Derived.Test.YthgmphmghnonbaaDoorZQuW
import Derived.Test.YthgmphmghnonbaaDoorZQuQ
import Derived.Test.YthgmphmghnonbaaDoorZStrs
import Derived.Test.YthgmphmghnonbaaDoorZQuM
import Derived.Test.YthgmphmghnonbaaDoorZFd
namespace Go.Proofs.YthgmphmghnonbaaDoor
open Go.RowKit

theorem gt_cell {w : World} {g o : Nat} {v : Value} (h : w.cell? ⟨g, o, none⟩ = some v) : g < w.heap.size := by
  rcases Nat.lt_or_ge g w.heap.size with h' | h'
  · exact h'
  · simp [World.cell?, Array.getElem?_eq_none h'] at h
/-- The reader of a text, new. -/
theorem rd_new {s : ByteArray} {w0 w : World} {A : Nat} {a : Addr} (hs : s.size ≤ 8000) (hown : w.ownsRow w0.heap.size 9 1 (.slice (some ⟨A, 0, none⟩) (wsOf s).length (wsOf s).length) (wsOf s).length ((wsOf s).map Value.string)) (her : w.cell? ⟨0, 0, none⟩ = some (errQ a)) (hK : KNames w) :
    RdI (w.alloc (.cells #[.slice (some ⟨A, 0, none⟩) (wsOf s).length (wsOf s).length, .int .i64 0] 39)) w.heap.size (.slice (some ⟨A, 0, none⟩) (wsOf s).length (wsOf s).length) (wsOf s) 0 a := by
  have hb : Below w.heap.size w (w.alloc (.cells #[.slice (some ⟨A, 0, none⟩) (wsOf s).length (wsOf s).length, .int .i64 0] 39)) := (Below.refl _ _).alloc (Nat.le_refl _) _
  have hA := (hown.lt A rfl).2
  refine ⟨heap_alloc_new _ _, ⟨_, _, rfl, fun i hi => ⟨A, 0, rfl, by omega, by simp; omega, ?_⟩⟩, Nat.zero_le _, (hb.cell (p := ⟨_, 0, none⟩) (gt_cell her)).trans her, gt_cell her, hK.below hb (Nat.le_refl _), gt_cell hK.c0, fun x hx => Nat.le_trans (ws_size s x hx) hs, Nat.le_trans (ws_len s) (by omega)⟩
  have := hown.cells (g := A) rfl i (.string (wsOf s)[i]) (by simp [hi])
  rw [Addr.add_lit] at this
  exact (hb.cell (p := ⟨A, 0 + i, none⟩) hA).trans this
theorem EndQ.ok {w w' : World} {b : Nat} {sv : Value} {ws : List ByteArray} {a : Addr} {r : Except Nat Qy} {q : Qy} {e : Ending} (h : EndQ w b sv ws a r e w') (hr : r = .ok q) : (∃ v, e = .returned (.agg #[.bool q.cnt, v, .string q.by', .string q.ord, .bool q.dwn, .int .i64 q.lim]) ∧ w'.ownsRow w.heap.size 45 4 v q.cs.length (q.cs.flatMap Cd.cells)) ∧ (∃ k, RdI w' b sv ws k a) ∧ w.grownBy w' (some b) := by subst hr; exact h
theorem EndQ.err {w w' : World} {b k : Nat} {sv : Value} {ws : List ByteArray} {a : Addr} {r : Except Nat Qy} {e : Ending} (h : EndQ w b sv ws a r e w') (hr : r = .error k) : e = .panicked [{ v := errQ a, recovered := false }] ∧ RdI w' b sv ws k a ∧ w.grownBy w' (some b) := by subst hr; exact h
set_option maxRecDepth 100000 in
set_option maxHeartbeats 2000000 in
theorem implQueryRead_any {a : Addr} (s : ByteArray) (w : World) (her : w.cell? ⟨0, 0, none⟩ = some (errQ a)) (hK : KNames w) :
    Calls Tryd.prog 5 #[.string s] w fun e w' => ∃ v, e = .returned (qoV (qoS s) v) ∧ w'.ownsRow w.heap.size 45 4 v (qoS s).1.cs.length ((qoS s).1.cs.flatMap Cd.cells) ∧ Below w.heap.size w w' := by
  have hmf : ∀ (fn : Fn) (first cap : Array Value) (w : World), (Instr.makeFunc fn first cap).run Tryd.prog w = .ok (.func fn first cap) w := fun _ _ _ _ => rfl
  generalize hR' : qoS s = R
  have hR := hid hR'
  clear hR'
  by_cases h8 : (s.size : Int) ≤ 8000
  · have h8' : s.size ≤ 8000 := by omega
    have cT := fun w => tooLong_no h8 w
    have hb0 : Below w.heap.size w (w.alloc (.cells #[.bool false, .slice none 0 0, .string ⟨#[]⟩, .string ⟨#[]⟩, .bool false, .int .i64 0, .int .i64 0, .int .i64 0] 26)) := (Below.refl _ _).alloc (Nat.le_refl _) _
    have cW := wordsIn_any s (w.alloc (.cells #[.bool false, .slice none 0 0, .string ⟨#[]⟩, .string ⟨#[]⟩, .bool false, .int .i64 0, .int .i64 0, .int .i64 0] 26)) (by omega)
    have P0 := hid (NewB.made (w := w) (W := w) [.bool false, .slice none 0 0, .string ⟨#[]⟩, .string ⟨#[]⟩, .bool false, .int .i64 0, .int .i64 0, .int .i64 0] 26 (Nat.le_refl _))
    go_enter_defers Tryd.func5, Tryd.ntmps5
    go_wp2_with (first
      | (go_at_call 11; refine (cT _).mono ?_; rintro e w1 ⟨rfl, rfl⟩)
      | (go_at_call 12; refine cW.mono ?_; rintro e w1 ⟨A, rfl, hA, hown, hb1⟩; have hb1' := hid (hb0.trans (hb1.mono hb0.size)); have hI := hid (rd_new h8' hown ((hb1'.out.cell (p := ⟨_, 0, none⟩) (gt_cell her)).trans her) (hK.below hb1'.out (Nat.le_refl _))); have P1 := hid ((P0.out.below hb1).alloc (.cells #[.slice (some ⟨A, 0, none⟩) (wsOf s).length (wsOf s).length, .int .i64 0] 39)); have hz1 : w.heap.size < w1.heap.size := (by have := hb1.size; simp at this; omega); clear cW hown hb1 P0))
    have hb9 : ¬ w.heap.size = w1.heap.size := by omega
    cases hq : rQ (wsOf s) with
    | ok q =>
      obtain rfl : R = (q, 0, 0) := by rw [← hR.out]; exact qoS_ok (by omega) hq
      refine (query_any _ hI.out).mono ?_
      rintro e w2 hE
      obtain ⟨⟨v, rfl, hown⟩, _, hg⟩ := EndQ.ok hE hq
      obtain ⟨va, vc, rfl⟩ := own_forms hown
      have hB2 := (hb1'.out.alloc (by omega) (.cells #[.slice (some ⟨A, 0, none⟩) (wsOf s).length (wsOf s).length, .int .i64 0] 39)).grown hg (by simp; omega) (fun k e => by cases e; omega)
      have hlt : w.heap.size < (w1.alloc (.cells #[.slice (some ⟨A, 0, none⟩) (wsOf s).length (wsOf s).length, .int .i64 0] 39)).heap.size := by simp; omega
      have P2 : NewB w w2 w.heap.size [.bool false, .slice none 0 0, .string ⟨#[]⟩, .string ⟨#[]⟩, .bool false, .int .i64 0, .int .i64 0, .int .i64 0] 26 := ⟨(hg.block _ (lt_heap P1.out.blk) (fun e => hb9 (Option.some.inj e))).trans P1.out.blk, Nat.le_refl _⟩
      have p0 := P2.cell 0
      have p1 := P2.cell 1
      have p2 := P2.cell 2
      have p3 := P2.cell 3
      have p4 := P2.cell 4
      have p5 := P2.cell 5
      have p6 := P2.cell 6
      have p7 := P2.cell 7
      have f0 := P2.frozen 0
      have f1 := P2.frozen 1
      have f2 := P2.frozen 2
      have f3 := P2.frozen 3
      have f4 := P2.frozen 4
      have f5 := P2.frozen 5
      have f6 := P2.frozen 6
      have f7 := P2.frozen 7
      go_wp2
      refine leaves_cons (f := 13) (args := #[.pointer (some ⟨w1.heap.size, 0, none⟩), .pointer (some ⟨w.heap.size, 0, none⟩)]) (by simp) (by simp [go_sem]) ?_
      refine (catch_idle _ _ _).mono ?_
      rintro e u' w'' ⟨rfl, rfl, rfl⟩
      simp [Leaves, settle, results, Tryd.results5, go_sem, p0, p1, p2, p3, p4, p5, p6, p7]
      exact ⟨ownB_le (own_kept (own_kept (own_kept (own_kept (own_kept (own_kept (own_kept (own_kept hown hlt (grown_set _ w.heap.size 0 _)) hlt (grown_set _ w.heap.size 1 _)) hlt (grown_set _ w.heap.size 2 _)) hlt (grown_set _ w.heap.size 3 _)) hlt (grown_set _ w.heap.size 4 _)) hlt (grown_set _ w.heap.size 5 _)) hlt (grown_set _ w.heap.size 6 _)) hlt (grown_set _ w.heap.size 7 _)) (by simp; omega), ((((((((hB2.setCell (p := ⟨w.heap.size, 0, none⟩) (Nat.le_refl _) _).setCell (p := ⟨w.heap.size, 1, none⟩) (Nat.le_refl _) _).setCell (p := ⟨w.heap.size, 2, none⟩) (Nat.le_refl _) _).setCell (p := ⟨w.heap.size, 3, none⟩) (Nat.le_refl _) _).setCell (p := ⟨w.heap.size, 4, none⟩) (Nat.le_refl _) _).setCell (p := ⟨w.heap.size, 5, none⟩) (Nat.le_refl _) _).setCell (p := ⟨w.heap.size, 6, none⟩) (Nat.le_refl _) _).setCell (p := ⟨w.heap.size, 7, none⟩) (Nat.le_refl _) _)⟩
    | error k =>
      obtain rfl : R = (qZ, (k : Int), 3) := by rw [← hR.out]; exact qoS_err (by omega) hq
      refine (query_any _ hI.out).mono ?_
      rintro e w2 hE
      obtain ⟨rfl, hr, hg⟩ := EndQ.err hE hq
      have hB2 := (hb1'.out.alloc (by omega) (.cells #[.slice (some ⟨A, 0, none⟩) (wsOf s).length (wsOf s).length, .int .i64 0] 39)).grown hg (by simp; omega) (fun k e => by cases e; omega)
      have P2 : NewB w w2 w.heap.size [.bool false, .slice none 0 0, .string ⟨#[]⟩, .string ⟨#[]⟩, .bool false, .int .i64 0, .int .i64 0, .int .i64 0] 26 := ⟨(hg.block _ (lt_heap P1.out.blk) (fun e => hb9 (Option.some.inj e))).trans P1.out.blk, Nat.le_refl _⟩
      have hk : w2.cell? ⟨w1.heap.size, 1, none⟩ = some (.int .i64 (k : Int)) := by rw [Lib.cell_of_heap hr.hb]; rfl
      refine leaves_cons (f := 13) (args := #[.pointer (some ⟨w1.heap.size, 0, none⟩), .pointer (some ⟨w.heap.size, 0, none⟩)]) (by simp) (by simp [go_sem]) ?_
      refine (catch_panicking _ _ _ _ _ [] _ _ _ hk P2.blk rfl).mono ?_
      rintro e u' w'' ⟨rfl, rfl, rfl⟩
      have p0 := P2.cell 0
      have p1 := P2.cell 1
      have p2 := P2.cell 2
      have p3 := P2.cell 3
      have p4 := P2.cell 4
      have p5 := P2.cell 5
      have p6 := P2.cell 6
      have p7 := P2.cell 7
      simp [Leaves, settle, results, Tryd.results5, go_sem, p0, p1, p2, p3, p4, p5, p6, p7]
      exact ⟨.slice none 0 0, ⟨rfl, rfl, rfl, rfl, rfl, rfl⟩, ⟨rfl, .inl ⟨rfl, rfl⟩⟩, ((((((((hB2.setCell (p := ⟨w.heap.size, 0, none⟩) (Nat.le_refl _) _).setCell (p := ⟨w.heap.size, 1, none⟩) (Nat.le_refl _) _).setCell (p := ⟨w.heap.size, 2, none⟩) (Nat.le_refl _) _).setCell (p := ⟨w.heap.size, 3, none⟩) (Nat.le_refl _) _).setCell (p := ⟨w.heap.size, 4, none⟩) (Nat.le_refl _) _).setCell (p := ⟨w.heap.size, 5, none⟩) (Nat.le_refl _) _).setCell (p := ⟨w.heap.size, 6, none⟩) (Nat.le_refl _) _).setCell (p := ⟨w.heap.size, 7, none⟩) (Nat.le_refl _) _)⟩
  · have h8' : 8000 < s.size := by omega
    have cT := fun w => tooLong_yes h8 w
    obtain rfl : R = (qZ, 0, 2) := by rw [← hR.out]; exact qoS_long h8'
    go_enter_defers Tryd.func5, Tryd.ntmps5
    go_wp2_with (first
      | (go_at_call 11; refine (cT _).mono ?_; rintro e w1 ⟨rfl, rfl⟩))
    simp [bodyPostD, Leaves, results, Tryd.results5, go_sem]
    exact ⟨.slice none 0 0, ⟨rfl, rfl, rfl, rfl, rfl, rfl⟩, ⟨rfl, .inl ⟨rfl, rfl⟩⟩, (Below.refl _ _).alloc (Nat.le_refl _) _⟩
end Go.Proofs.YthgmphmghnonbaaDoor
