/-
  Texts put together: QuQ, Long, QuZ, QpS.
-/
import Derived.Test.YtimlnbfalnkmhaaGreatDoorZQuQc
import Derived.Test.YtimlnbfalnkmhaaGreatDoorZQuQa
import Derived.Test.YtimlnbfalnkmhaaGreatDoorZQuQd
import Derived.Test.YtimlnbfalnkmhaaGreatDoorZQuQn
import Derived.Test.YtimlnbfalnkmhaaGreatDoorZQuQx
import Derived.Test.YtimlnbfalnkmhaaGreatDoorRows
import Derived.WalkKit
import Derived.WalkLawsBesides
import Derived.Test.YtimlnbfalnkmhaaGreatDoorZQuD3
import Derived.Test.YtimlnbfalnkmhaaGreatDoorZOwnB6
import Derived.Test.YtimlnbfalnkmhaaGreatDoorZQoM5
import Derived.Test.YtimlnbfalnkmhaaGreatDoorZFdM2
import Derived.Test.YtimlnbfalnkmhaaGreatDoorZGen2
/-
  Queries: what (*impl.reader).query answers: a contract over the seat's program.
-/
namespace Go.Proofs.YtimlnbfalnkmhaaGreatDoor
open Go.RowKit

theorem query_any {b : Nat} {sv : Value} {ws : List ByteArray} {a : Addr} (w : World) (h : RdI w b sv ws 0 a) :
    Calls Tryz.prog 46 #[.pointer (some ⟨b, 0, none⟩)] w fun e w' => EndQ w b sv ws a (rQ ws) e w' := by
  by_cases hC : nw ws 0 = qCount
  · exact query_count w h hC
  · by_cases hN : nw ws 0 = qFind
    · cases hcs : rConds ws 1 with
      | error e => exact query_fx1 w h hC hN hcs
      | ok ck =>
        obtain ⟨cs, k⟩ := ck
        by_cases hO : nw ws k = qOrder
        · cases hOF : numF (nw ws (k + 1)) with
          | false => exact query_fx2 w h hC hN hcs hO hOF
          | true =>
            by_cases hZ : nw ws (k + 2) = qDesc
            · exact query_fd w h hC hN hcs hO hOF hZ
            · exact query_fn w h hC hN hcs hO hOF hZ
        · exact query_fa w h hC hN hcs hO
    · exact query_fx0 w h hC hN
end Go.Proofs.YtimlnbfalnkmhaaGreatDoor

/-
  What impl.tooLong answers: a contract over the seat's program.
-/
namespace Go.Proofs.YtimlnbfalnkmhaaGreatDoor
open Go.RowKit

theorem tooLong_any (s : ByteArray) (w : World) :
    Calls Tryz.prog 43 #[.string s] w fun e w' => e = .returned (.bool (decide (8000 < (s.size : Int)))) ∧ w' = w := by
  go_enter Tryz.func43, Tryz.ntmps43
  go_wp2
  go_ret
  exact ⟨rfl, rfl⟩

theorem tooLong_yes {s : ByteArray} (h : ¬ (s.size : Int) ≤ 8000) (w : World) :
    Calls Tryz.prog 43 #[.string s] w fun e w' => e = .returned (.bool true) ∧ w' = w := by
  have := tooLong_any s w
  rwa [show decide (8000 < (s.size : Int)) = true by simp; omega] at this
theorem tooLong_no {s : ByteArray} (h : (s.size : Int) ≤ 8000) (w : World) :
    Calls Tryz.prog 43 #[.string s] w fun e w' => e = .returned (.bool false) ∧ w' = w := by
  have := tooLong_any s w
  rwa [show decide (8000 < (s.size : Int)) = false by simp; omega] at this
end Go.Proofs.YtimlnbfalnkmhaaGreatDoor

/-
  Queries: what impl.QueryRead answers: a contract over the seat's program.
-/
namespace Go.Proofs.YtimlnbfalnkmhaaGreatDoor
open Go.RowKit

theorem gt_cell {w : World} {g o : Nat} {v : Value} (h : w.cell? ⟨g, o, none⟩ = some v) : g < w.heap.size := by
  rcases Nat.lt_or_ge g w.heap.size with h' | h'
  · exact h'
  · simp [World.cell?, Array.getElem?_eq_none h'] at h
/-- The reader of a text, new. -/
theorem rd_new {s : ByteArray} {w0 w : World} {A : Nat} {a : Addr} (hs : s.size ≤ 8000) (hown : w.ownsRow w0.heap.size 9 1 (.slice (some ⟨A, 0, none⟩) (wsOf s).length (wsOf s).length) (wsOf s).length ((wsOf s).map Value.string)) (her : w.cell? ⟨0, 0, none⟩ = some (errQ a)) (hK : KNames w) :
    RdI (w.alloc (.cells #[.slice (some ⟨A, 0, none⟩) (wsOf s).length (wsOf s).length, .int .i64 0] 75)) w.heap.size (.slice (some ⟨A, 0, none⟩) (wsOf s).length (wsOf s).length) (wsOf s) 0 a := by
  have hb : Below w.heap.size w (w.alloc (.cells #[.slice (some ⟨A, 0, none⟩) (wsOf s).length (wsOf s).length, .int .i64 0] 75)) := (Below.refl _ _).alloc (Nat.le_refl _) _
  have hA := (hown.lt A rfl).2
  refine ⟨heap_alloc_new _ _, ⟨_, _, rfl, fun i hi => ⟨A, 0, rfl, by omega, by simp; omega, ?_⟩⟩, Nat.zero_le _, (hb.cell (p := ⟨_, 0, none⟩) (gt_cell her)).trans her, gt_cell her, hK.below hb (Nat.le_refl _), gt_cell hK.c0, fun x hx => Nat.le_trans (ws_size s x hx) hs, Nat.le_trans (ws_len s) (by omega)⟩
  have := hown.cells (g := A) rfl i (.string (wsOf s)[i]) (by simp [hi])
  rw [Addr.add_lit] at this
  exact (hb.cell (p := ⟨A, 0 + i, none⟩) hA).trans this
theorem EndQ.ok {w w' : World} {b : Nat} {sv : Value} {ws : List ByteArray} {a : Addr} {r : Except Nat Qy} {q : Qy} {e : Ending} (h : EndQ w b sv ws a r e w') (hr : r = .ok q) : (∃ v, e = .returned (.agg #[.bool q.cnt, v, .string q.by', .string q.ord, .bool q.dwn, .int .i64 q.lim]) ∧ w'.ownsRow w.heap.size 67 4 v q.cs.length (q.cs.flatMap Cd.cells)) ∧ (∃ k, RdI w' b sv ws k a) ∧ w.grownBy w' (some b) := by subst hr; exact h
theorem EndQ.err {w w' : World} {b k : Nat} {sv : Value} {ws : List ByteArray} {a : Addr} {r : Except Nat Qy} {e : Ending} (h : EndQ w b sv ws a r e w') (hr : r = .error k) : e = .panicked [{ v := errQ a, recovered := false }] ∧ RdI w' b sv ws k a ∧ w.grownBy w' (some b) := by subst hr; exact h
set_option maxRecDepth 100000 in
set_option maxHeartbeats 2000000 in
theorem implQueryRead_any {a : Addr} (s : ByteArray) (w : World) (her : w.cell? ⟨0, 0, none⟩ = some (errQ a)) (hK : KNames w) :
    Calls Tryz.prog 11 #[.string s] w fun e w' => ∃ v, e = .returned (qoV (qoS s) v) ∧ w'.ownsRow w.heap.size 67 4 v (qoS s).1.cs.length ((qoS s).1.cs.flatMap Cd.cells) ∧ Below w.heap.size w w' := by
  have hmf : ∀ (fn : Fn) (first cap : Array Value) (w : World), (Instr.makeFunc fn first cap).run Tryz.prog w = .ok (.func fn first cap) w := fun _ _ _ _ => rfl
  generalize hR' : qoS s = R
  have hR := hid hR'
  clear hR'
  by_cases h8 : (s.size : Int) ≤ 8000
  · have h8' : s.size ≤ 8000 := by omega
    have cT := fun w => tooLong_no h8 w
    have hb0 : Below w.heap.size w (w.alloc (.cells #[.bool false, .slice none 0 0, .string ⟨#[]⟩, .string ⟨#[]⟩, .bool false, .int .i64 0, .int .i64 0, .int .i64 0] 30)) := (Below.refl _ _).alloc (Nat.le_refl _) _
    have cW := wordsIn_any s (w.alloc (.cells #[.bool false, .slice none 0 0, .string ⟨#[]⟩, .string ⟨#[]⟩, .bool false, .int .i64 0, .int .i64 0, .int .i64 0] 30)) (by omega)
    have P0 := hid (NewB.made (w := w) (W := w) [.bool false, .slice none 0 0, .string ⟨#[]⟩, .string ⟨#[]⟩, .bool false, .int .i64 0, .int .i64 0, .int .i64 0] 30 (Nat.le_refl _))
    go_enter_defers Tryz.func11, Tryz.ntmps11
    go_wp2_with (first
      | (go_at_call 43; refine (cT _).mono ?_; rintro e w1 ⟨rfl, rfl⟩)
      | (go_at_call 44; refine cW.mono ?_; rintro e w1 ⟨A, rfl, hA, hown, hb1⟩; have hb1' := hid (hb0.trans (hb1.mono hb0.size)); have hI := hid (rd_new h8' hown ((hb1'.out.cell (p := ⟨_, 0, none⟩) (gt_cell her)).trans her) (hK.below hb1'.out (Nat.le_refl _))); have P1 := hid ((P0.out.below hb1).alloc (.cells #[.slice (some ⟨A, 0, none⟩) (wsOf s).length (wsOf s).length, .int .i64 0] 75)); have hz1 : w.heap.size < w1.heap.size := (by have := hb1.size; simp at this; omega); clear cW hown hb1 P0))
    have hb9 : ¬ w.heap.size = w1.heap.size := by omega
    cases hq : rQ (wsOf s) with
    | ok q =>
      obtain rfl : R = (q, 0, 0) := by rw [← hR.out]; exact qoS_ok (by omega) hq
      refine (query_any _ hI.out).mono ?_
      rintro e w2 hE
      obtain ⟨⟨v, rfl, hown⟩, _, hg⟩ := EndQ.ok hE hq
      obtain ⟨va, vc, rfl⟩ := own_forms hown
      have hB2 := (hb1'.out.alloc (by omega) (.cells #[.slice (some ⟨A, 0, none⟩) (wsOf s).length (wsOf s).length, .int .i64 0] 75)).grown hg (by simp; omega) (fun k e => by cases e; omega)
      have hlt : w.heap.size < (w1.alloc (.cells #[.slice (some ⟨A, 0, none⟩) (wsOf s).length (wsOf s).length, .int .i64 0] 75)).heap.size := by simp; omega
      have P2 : NewB w w2 w.heap.size [.bool false, .slice none 0 0, .string ⟨#[]⟩, .string ⟨#[]⟩, .bool false, .int .i64 0, .int .i64 0, .int .i64 0] 30 := ⟨(hg.block _ (lt_heap P1.out.blk) (fun e => hb9 (Option.some.inj e))).trans P1.out.blk, Nat.le_refl _⟩
      have p0 := P2.cell 0
      have p1 := P2.cell 1
      have p2 := P2.cell 2
      have p3 := P2.cell 3
      have p4 := P2.cell 4
      have p5 := P2.cell 5
      have p6 := P2.cell 6
      have p7 := P2.cell 7
      have f0 := P2.frozen 0
      have f1 := P2.frozen 1
      have f2 := P2.frozen 2
      have f3 := P2.frozen 3
      have f4 := P2.frozen 4
      have f5 := P2.frozen 5
      have f6 := P2.frozen 6
      have f7 := P2.frozen 7
      go_wp2
      refine leaves_cons (f := 45) (args := #[.pointer (some ⟨w1.heap.size, 0, none⟩), .pointer (some ⟨w.heap.size, 0, none⟩)]) (by simp) (by simp [go_sem]) ?_
      refine (catch_idle _ _ _).mono ?_
      rintro e u' w'' ⟨rfl, rfl, rfl⟩
      simp [Leaves, settle, results, Tryz.results11, go_sem, p0, p1, p2, p3, p4, p5, p6, p7]
      exact ⟨ownB_le (own_kept (own_kept (own_kept (own_kept (own_kept (own_kept (own_kept (own_kept hown hlt (grown_set _ w.heap.size 0 _)) hlt (grown_set _ w.heap.size 1 _)) hlt (grown_set _ w.heap.size 2 _)) hlt (grown_set _ w.heap.size 3 _)) hlt (grown_set _ w.heap.size 4 _)) hlt (grown_set _ w.heap.size 5 _)) hlt (grown_set _ w.heap.size 6 _)) hlt (grown_set _ w.heap.size 7 _)) (by simp; omega), ((((((((hB2.setCell (p := ⟨w.heap.size, 0, none⟩) (Nat.le_refl _) _).setCell (p := ⟨w.heap.size, 1, none⟩) (Nat.le_refl _) _).setCell (p := ⟨w.heap.size, 2, none⟩) (Nat.le_refl _) _).setCell (p := ⟨w.heap.size, 3, none⟩) (Nat.le_refl _) _).setCell (p := ⟨w.heap.size, 4, none⟩) (Nat.le_refl _) _).setCell (p := ⟨w.heap.size, 5, none⟩) (Nat.le_refl _) _).setCell (p := ⟨w.heap.size, 6, none⟩) (Nat.le_refl _) _).setCell (p := ⟨w.heap.size, 7, none⟩) (Nat.le_refl _) _)⟩
    | error k =>
      obtain rfl : R = (qZ, (k : Int), 3) := by rw [← hR.out]; exact qoS_err (by omega) hq
      refine (query_any _ hI.out).mono ?_
      rintro e w2 hE
      obtain ⟨rfl, hr, hg⟩ := EndQ.err hE hq
      have hB2 := (hb1'.out.alloc (by omega) (.cells #[.slice (some ⟨A, 0, none⟩) (wsOf s).length (wsOf s).length, .int .i64 0] 75)).grown hg (by simp; omega) (fun k e => by cases e; omega)
      have P2 : NewB w w2 w.heap.size [.bool false, .slice none 0 0, .string ⟨#[]⟩, .string ⟨#[]⟩, .bool false, .int .i64 0, .int .i64 0, .int .i64 0] 30 := ⟨(hg.block _ (lt_heap P1.out.blk) (fun e => hb9 (Option.some.inj e))).trans P1.out.blk, Nat.le_refl _⟩
      have hk : w2.cell? ⟨w1.heap.size, 1, none⟩ = some (.int .i64 (k : Int)) := by rw [Lib.cell_of_heap hr.hb]; rfl
      refine leaves_cons (f := 45) (args := #[.pointer (some ⟨w1.heap.size, 0, none⟩), .pointer (some ⟨w.heap.size, 0, none⟩)]) (by simp) (by simp [go_sem]) ?_
      refine (catch_panicking _ _ _ _ _ [] _ _ _ hk P2.blk rfl).mono ?_
      rintro e u' w'' ⟨rfl, rfl, rfl⟩
      have p0 := P2.cell 0
      have p1 := P2.cell 1
      have p2 := P2.cell 2
      have p3 := P2.cell 3
      have p4 := P2.cell 4
      have p5 := P2.cell 5
      have p6 := P2.cell 6
      have p7 := P2.cell 7
      simp [Leaves, settle, results, Tryz.results11, go_sem, p0, p1, p2, p3, p4, p5, p6, p7]
      exact ⟨.slice none 0 0, ⟨rfl, rfl, rfl, rfl, rfl, rfl⟩, ⟨rfl, .inl ⟨rfl, rfl⟩⟩, ((((((((hB2.setCell (p := ⟨w.heap.size, 0, none⟩) (Nat.le_refl _) _).setCell (p := ⟨w.heap.size, 1, none⟩) (Nat.le_refl _) _).setCell (p := ⟨w.heap.size, 2, none⟩) (Nat.le_refl _) _).setCell (p := ⟨w.heap.size, 3, none⟩) (Nat.le_refl _) _).setCell (p := ⟨w.heap.size, 4, none⟩) (Nat.le_refl _) _).setCell (p := ⟨w.heap.size, 5, none⟩) (Nat.le_refl _) _).setCell (p := ⟨w.heap.size, 6, none⟩) (Nat.le_refl _) _).setCell (p := ⟨w.heap.size, 7, none⟩) (Nat.le_refl _) _)⟩
  · have h8' : 8000 < s.size := by omega
    have cT := fun w => tooLong_yes h8 w
    obtain rfl : R = (qZ, 0, 2) := by rw [← hR.out]; exact qoS_long h8'
    go_enter_defers Tryz.func11, Tryz.ntmps11
    go_wp2_with (first
      | (go_at_call 43; refine (cT _).mono ?_; rintro e w1 ⟨rfl, rfl⟩))
    simp [bodyPostD, Leaves, results, Tryz.results11, go_sem]
    exact ⟨.slice none 0 0, ⟨rfl, rfl, rfl, rfl, rfl, rfl⟩, ⟨rfl, .inl ⟨rfl, rfl⟩⟩, (Below.refl _ _).alloc (Nat.le_refl _) _⟩
end Go.Proofs.YtimlnbfalnkmhaaGreatDoor

/-
  Queries: what spec.l01Split answers: a contract over the seat's program.
-/
namespace Go.Proofs.YtimlnbfalnkmhaaGreatDoor
open Go.RowKit Go.Lib

theorem str1_new (V : World) (x : ByteArray) (T : TypeId) : ∀ j u, [Value.string x][j]? = some u → (V.alloc (.cells #[.string x] T)).cell? ((⟨V.heap.size, 0, none⟩ : Addr).add j) = some u := by
  intro j u hj
  rw [Addr.add_lit, Lib.cell_of_heap (heap_alloc_new _ _), Nat.zero_add, ← hj]
  simp
theorem strs_snoc (l : List ByteArray) (x : ByteArray) : (l ++ [x]).map Value.string = l.map Value.string ++ [.string x] := by simp
theorem piece_step {l : List UInt8} {a k : Nat} (ha : a ≤ k) (hk : k < l.length) : pieceU l a k ++ [l[k]] = pieceU l a (k + 1) := by
  rw [← pieceU_grow l a k 1 ha]
  congr 1
  rw [List.drop_eq_getElem_cons hk]
  rfl
theorem piece_self (l : List UInt8) (a : Nat) : pieceU l a a = [] := by simp [pieceU]
/-- What is left to part at a place, behind what is closed. -/
def SpR (s : ByteArray) (a k : Nat) (o : List ByteArray) : Prop := a ≤ k ∧ k ≤ s.size ∧ o.map (·.data.toList) ++ spl (pieceU s.data.toList a k) (s.data.toList.drop k) = spl [] s.data.toList
theorem SpR.start (s : ByteArray) : SpR s 0 0 [] := ⟨Nat.le_refl _, Nat.zero_le _, by simp [pieceU]⟩
theorem SpR.blank {s : ByteArray} {a k : Nat} {o : List ByteArray} (h : SpR s a k o) (hk : k < s.size) (hb : (s[k].toNat : Int) = 32) : SpR s (k + 1) (k + 1) (o ++ [s.extract a k]) := by
  obtain ⟨h1, h2, h3⟩ := h
  have hl : k < s.data.toList.length := by rw [← size_eq]; exact hk
  have hc : s.data.toList[k] = 32 := by
    have : s[k].toNat = 32 := by omega
    have e : s.data.toList[k] = s[k] := by cases s; rfl
    rw [e]; exact UInt8.toNat_inj.1 this
  refine ⟨Nat.le_refl _, hk, ?_⟩
  rw [List.drop_eq_getElem_cons hl, spl, if_pos hc] at h3
  rw [piece_self, ← h3]
  simp [pieceU]
theorem SpR.step {s : ByteArray} {a k : Nat} {o : List ByteArray} (h : SpR s a k o) (hk : k < s.size) (hb : ¬ (s[k].toNat : Int) = 32) : SpR s a (k + 1) o := by
  obtain ⟨h1, h2, h3⟩ := h
  have hl : k < s.data.toList.length := by rw [← size_eq]; exact hk
  have hc : ¬ s.data.toList[k] = 32 := by
    have e : s.data.toList[k] = s[k] := by cases s; rfl
    rw [e]
    intro e2
    rw [e2] at hb
    exact hb rfl
  refine ⟨by omega, hk, ?_⟩
  rw [List.drop_eq_getElem_cons hl, spl, if_neg hc, piece_step h1 hl] at h3
  exact h3
theorem SpR.fin {s : ByteArray} {a : Nat} {o : List ByteArray} (h : SpR s a s.size o) : (o ++ [s.extract a s.size]).filter (fun x => decide (x.size ≠ 0)) = wsOf s := by
  apply ws_of_spl
  obtain ⟨h1, h2, h3⟩ := h
  have hd : s.data.toList.drop s.size = [] := List.drop_eq_nil_of_le (by rw [← size_eq]; exact Nat.le_refl _)
  rw [hd, spl] at h3
  rw [← h3]
  simp [pieceU]
set_option maxRecDepth 100000 in
set_option maxHeartbeats 2000000 in
theorem l01Split_any (s : ByteArray) (w : World) (hs : s.size ≤ 8000) :
    Calls Tryz.prog 51 #[.string s, .int .u8 32] w fun e w' => ∃ (v : Value) (o : List ByteArray), e = .returned v ∧ w'.ownsRow w.heap.size 9 1 v o.length (o.map Value.string) ∧ o.filter (fun x => decide (x.size ≠ 0)) = wsOf s ∧ o.length ≤ 8001 ∧ Below w.heap.size w w' := by
  obtain ⟨i0, hi, hz0, hz1, hz2⟩ := info_parts Tryz.infoStr
  go_enter Tryz.func51, Tryz.ntmps51
  go_wp2
  go_loopw [5, 6, 7] (fun v fv iv wr => ∃ (o : List ByteArray) (a k : Nat), fv = .int .i64 (a : Int) ∧ iv = .int .i64 (k : Int) ∧ o.length ≤ k ∧ Hid (SpR s a k o) ∧ wr.ownsRow w.heap.size 9 1 v o.length (o.map Value.string) ∧ Below w.heap.size w wr) (fun _ _ iv _ => s.size - (intOf iv).toNat)
  case atStart =>
    refine ⟨[], 0, 0, rfl, rfl, Nat.le_refl _, hid (SpR.start s), ?_, (Below.refl _ _).alloc (Nat.le_refl _) _⟩
    exact ⟨rfl, .inr ⟨_, 0, _, rfl, Nat.le_refl _, heap_alloc_new _ _, Nat.le_refl _, by unfold maxLen; omega, rfl, rfl⟩⟩
  case round =>
    obtain ⟨o, a, k, rfl, rfl, hok, hS, hown, hbel⟩ := hrel
    obtain ⟨va, vc, rfl⟩ := ownB_form hown
    have O := hid hown
    have B := hid hbel
    have hks := hS.out.2.1
    have hak := hS.out.1
    have hsz := hbel.size
    clear hown hbel
    by_cases hlt : k < s.size
    · have zk : (k : Int) < (s.size : Int) := by omega
      have zl : ((a : Int) ≤ (k : Int)) := by omega
      by_cases hb : (s[k].toNat : Int) = 32
      · have hS2 := hid (hS.out.blank hlt hb)
        have hb' : ((s[k].toNat : Int) == 32) = true := by rw [hb]; rfl
        have wn := str1_new wr (s.extract a k) 9
        go_wp2_with (first | (at_builtin; refine wpList_append_own _ rfl _ _ 64 rfl w.heap.size 9 i0 _ 1 16 Tryz.underlying64 hi hz0 hz1 hz2 rfl (by decide) _ _ _ rfl (O.out.alloc _) ⟨wr.heap.size, 0, none⟩ 1 1 [.string (s.extract a k)] rfl rfl ?c1 ?c2 ?c3 ?c4 ?c5 ?_) | fail)
        case c1 => exact wn
        case c2 => simp [Value.oneCell']
        case c3 => unfold maxLen; omega
        case c4 => omega
        case c5 => simp; omega
        intro v' w1 ho hg _
        have B1 := hid ((B.out.alloc hsz _).grown hg (by simp; omega) (fun j e => (O.out.lt j e).1))
        have O1 : Hid (w1.ownsRow w.heap.size 9 1 v' (o.length + 1) ((o ++ [s.extract a k]).map Value.string)) := hid (by rw [strs_snoc]; exact ho)
        obtain ⟨a', c', rfl⟩ := ownB_form ho
        clear ho hg O B hS wn
        go_wp2
        go_roundw
        case rel => exact ⟨o ++ [s.extract a k], k + 1, k + 1, by go_num, by go_num, by simp; omega, hS2, by have := O1.out; simpa using this, B1.out⟩
        case measure => simp [intOf]; omega
      · have hS2 := hid (hS.out.step hlt hb)
        have hb' : ((s[k].toNat : Int) == 32) = false := by rw [beq_eq_false_iff_ne]; exact hb
        clear hS
        go_wp2
        go_roundw
        case rel => exact ⟨o, a, k + 1, rfl, by go_num, by omega, hS2, O.out, B.out⟩
        case measure => simp [intOf]; omega
    · obtain rfl : k = s.size := by omega
      have hF := hid hS.out.fin
      have zl : ((a : Int) ≤ (s.size : Int)) := by omega
      have wn := str1_new wr (s.extract a s.size) 9
      go_wp2_with (first | (at_builtin; refine wpList_append_own _ rfl _ _ 64 rfl w.heap.size 9 i0 _ 1 16 Tryz.underlying64 hi hz0 hz1 hz2 rfl (by decide) _ _ _ rfl (O.out.alloc _) ⟨wr.heap.size, 0, none⟩ 1 1 [.string (s.extract a s.size)] rfl rfl ?c1 ?c2 ?c3 ?c4 ?c5 ?_) | fail)
      case c1 => exact wn
      case c2 => simp [Value.oneCell']
      case c3 => unfold maxLen; omega
      case c4 => omega
      case c5 => simp; omega
      intro v' w1 ho hg _
      have B1 := hid ((B.out.alloc hsz _).grown hg (by simp; omega) (fun j e => (O.out.lt j e).1))
      have O1 : Hid (w1.ownsRow w.heap.size 9 1 v' (o.length + 1) ((o ++ [s.extract a s.size]).map Value.string)) := hid (by rw [strs_snoc]; exact ho)
      obtain ⟨a', c', rfl⟩ := ownB_form ho
      clear ho hg O B hS wn
      go_wp2
      go_ret
      exact ⟨_, o ++ [s.extract a s.size], rfl, by have := O1.out; simpa using this, hF.out, by simp; omega, B1.out⟩
end Go.Proofs.YtimlnbfalnkmhaaGreatDoor
