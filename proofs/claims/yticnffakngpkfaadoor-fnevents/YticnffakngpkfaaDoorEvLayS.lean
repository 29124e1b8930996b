/-
  The bytes of events: what spec.l02Bytes answers, for every row of at most 400 right events: a contract over the seat's program.
-/
import Derived.Test.YticnffakngpkfaaDoorEvLay
namespace Go.Proofs.YticnffakngpkfaaDoor
open Go.RowKit Go.Sort Put

theorem layEvent_any {e : Ev} (h : evB e = true) (w : World) :
    Calls Tryd.prog 22 #[.agg #[.int .i64 e.seq, .int .i64 e.time, .int .i64 e.run, .int .i64 e.kind, .string e.step, .string e.val]] w fun x w' => x = .returned (.string (layE e)) ∧ Below w.heap.size w w' := by
  obtain ⟨hq, ht, hr, hk, hs, hv⟩ := okay_of h
  have h1 := numT_size e.seq
  have h2 := numT_size e.time
  have h3 := numT_size e.run
  have h4 := numT_size e.kind
  have h5 := putT_size e.step
  have h6 := putT_size e.val
  exact layEvent_six _ _ _ _ _ _ _ _ _ _ _ _ w (fun w => implPutNum_any _ w (by omega) (by omega)) (fun w => implPutNum_any _ w (by omega) (by omega)) (fun w => implPutNum_any _ w (by omega) (by omega)) (fun w => implPutNum_any _ w (by omega) (by omega))
    (fun w => implPutText_any _ w (by omega)) (fun w => implPutText_any _ w (by omega)) (by
      show (numT e.seq).size + (numT e.time).size + (numT e.run).size + (numT e.kind).size + (putT e.step).size + (putT e.val).size ≤ 1000000
      omega)

def catE : List Ev → ByteArray
  | [] => ByteArray.empty
  | e :: r => layE e ++ catE r
theorem catE_append (a b : List Ev) : catE (a ++ b) = catE a ++ catE b := by
  induction a with
  | nil => simp [catE]
  | cons e r ih => simp only [List.cons_append, catE, ih, ByteArray.append_assoc]
theorem catE_take {es : List Ev} {k : Nat} (h : k < es.length) : catE (es.take (k + 1)) = catE (es.take k) ++ layE es[k] := by
  rw [List.take_succ_eq_append_getElem h, catE_append]; simp [catE]
theorem catE_size {es : List Ev} (h : allB es = true) : (catE es).size ≤ 120 * es.length := by
  induction es with
  | nil => simp [catE]
  | cons e r ih =>
    simp [allB] at h
    have h1 := layE_size (okay_of h.1)
    have h2 := ih (by simpa [allB] using h.2)
    simp only [catE, ByteArray.size_append, List.length_cons]
    omega
theorem allB_take {es : List Ev} (h : allB es = true) (k : Nat) : allB (es.take k) = true := by
  unfold allB at h ⊢
  rw [List.all_eq_true] at h ⊢
  exact fun x hx => h x (List.mem_of_mem_take hx)
/-- The bytes of a row of events. -/
def layL (es : List Ev) : ByteArray := numT (es.length : Int) ++ catE es

theorem putN {e : Ev} (h : evB e = true) : (∀ w, Calls Tryd.prog 45 #[.int .i64 e.seq] w fun x w' => x = .returned (.string (numT e.seq)) ∧ Below w.heap.size w w') ∧ (∀ w, Calls Tryd.prog 45 #[.int .i64 e.time] w fun x w' => x = .returned (.string (numT e.time)) ∧ Below w.heap.size w w') ∧
    (∀ w, Calls Tryd.prog 45 #[.int .i64 e.run] w fun x w' => x = .returned (.string (numT e.run)) ∧ Below w.heap.size w w') ∧ (∀ w, Calls Tryd.prog 45 #[.int .i64 e.kind] w fun x w' => x = .returned (.string (numT e.kind)) ∧ Below w.heap.size w w') ∧
    (∀ w, Calls Tryd.prog 46 #[.string e.step] w fun x w' => x = .returned (.string (putT e.step)) ∧ Below w.heap.size w w') ∧ (∀ w, Calls Tryd.prog 46 #[.string e.val] w fun x w' => x = .returned (.string (putT e.val)) ∧ Below w.heap.size w w') := by
  obtain ⟨hq, ht, hr, hk, hs, hv⟩ := okay_of h
  exact ⟨fun w => specPutNum_any _ w (by omega) (by omega), fun w => specPutNum_any _ w (by omega) (by omega), fun w => specPutNum_any _ w (by omega) (by omega), fun w => specPutNum_any _ w (by omega) (by omega), fun w => specPutText_any _ w (by omega), fun w => specPutText_any _ w (by omega)⟩

theorem join7 (T S1 S2 S3 S4 S5 S6 : ByteArray) : T ++ S1 ++ S2 ++ S3 ++ S4 ++ S5 ++ S6 = T ++ (S1 ++ S2 ++ S3 ++ S4 ++ S5 ++ S6) := by simp only [ByteArray.append_assoc]

set_option maxHeartbeats 4000000 in
set_option maxRecDepth 1000000 in
theorem l02Bytes_row (g o c : Nat) (es : List Ev) (w : World) (hE : EvsAt w g o es) (hA : allB es = true) (hn : es.length ≤ 400) :
    Calls Tryd.prog 25 #[.slice (some ⟨g, o, none⟩) es.length c] w fun e w' => e = .returned (.string (layL es)) ∧ Below w.heap.size w w' := by
  have mixed : Tryd.prog.follows .mixedOrders = true := by kernel_rfl
  have HE := hid hE
  have HA := hid hA
  have c0 : ∀ w, Calls Tryd.prog 45 #[.int .i64 (es.length : Int)] w fun x w' => x = .returned (.string (numT (es.length : Int))) ∧ Below w.heap.size w w' := fun w => specPutNum_any _ w (by omega) (by omega)
  clear hE hA
  go_enter Tryd.func25, Tryd.ntmps25
  go_wp2_with fail
  refine (c0 _).mono ?_
  rintro e w1 ⟨rfl, hb1⟩
  clear c0
  go_wp2
  go_loopw [3, 4] (fun t i wr => ∃ k : Nat, k ≤ es.length ∧ i = .int .i64 k ∧ t = .string (numT (es.length : Int) ++ catE (es.take k)) ∧ Below w.heap.size w wr) (fun _ i _ => es.length - (intOf i).toNat)
  case atStart => exact ⟨0, Nat.zero_le _, rfl, by simp [catE], hb1⟩
  case round =>
    obtain ⟨k, hk, rfl, rfl, hbel⟩ := hrel
    by_cases hlt : k < es.length
    · obtain ⟨a0, a1, a2, a3, a4, a5⟩ := (HE.out.stay hbel (Nat.le_refl _)).2 k hlt
      have hev := allB_at HA.out hlt
      obtain ⟨p1, p2, p3, p4, p5, p6⟩ := putN hev
      have hT : (numT (es.length : Int) ++ catE (es.take k)).size ≤ 10 + 120 * 400 := by
        rw [ByteArray.size_append]
        have h1 := numT_size (es.length : Int)
        have h2 := catE_size (allB_take HA.out k)
        have h3 : (es.take k).length ≤ 400 := by simp; omega
        omega
      have hL := layE_size (okay_of hev)
      unfold layE at hL
      simp only [ByteArray.size_append] at hL
      have HC := hid (catE_take hlt)
      have HLE : Hid (layE es[k] = numT es[k].seq ++ numT es[k].time ++ numT es[k].run ++ numT es[k].kind ++ putT es[k].step ++ putT es[k].val) := rfl
      generalize numT es[k].seq = S1 at *
      generalize numT es[k].time = S2 at *
      generalize numT es[k].run = S3 at *
      generalize numT es[k].kind = S4 at *
      generalize putT es[k].step = S5 at *
      generalize putT es[k].val = S6 at *
      generalize es[k].seq = q0 at *
      generalize es[k].time = q1 at *
      generalize es[k].run = q2 at *
      generalize es[k].kind = q3 at *
      generalize es[k].step = q4 at *
      generalize es[k].val = q5 at *
      generalize hTT : numT (es.length : Int) ++ catE (es.take k) = T at *
      have HTT := hid hTT
      clear hev hTT
      obtain ⟨W, hW⟩ : ∃ W, W = wr.alloc (.cells #[.int .i64 q0, .int .i64 q1, .int .i64 q2, .int .i64 q3, .string q4, .string q5] 32) := ⟨_, rfl⟩
      have k0 := cell_regrown (w := W) (a := ⟨wr.heap.size, 0, none⟩) (v := .int .i64 q0) (by rw [hW]; simp)
      have k1 := cell_regrown (w := W) (a := ⟨wr.heap.size, 1, none⟩) (v := .int .i64 q1) (by rw [hW]; simp)
      have k2 := cell_regrown (w := W) (a := ⟨wr.heap.size, 2, none⟩) (v := .int .i64 q2) (by rw [hW]; simp)
      have k3 := cell_regrown (w := W) (a := ⟨wr.heap.size, 3, none⟩) (v := .int .i64 q3) (by rw [hW]; simp)
      have k4 := cell_regrown (w := W) (a := ⟨wr.heap.size, 4, none⟩) (v := .string q4) (by rw [hW]; simp)
      have k5 := cell_regrown (w := W) (a := ⟨wr.heap.size, 5, none⟩) (v := .string q5) (by rw [hW]; simp)
      have d1 := fun d os => Calls.regrown_of (w := W) (d := d) (os := os) (p1 _)
      have d2 := fun d os => Calls.regrown_of (w := W) (d := d) (os := os) (p2 _)
      have d3 := fun d os => Calls.regrown_of (w := W) (d := d) (os := os) (p3 _)
      have d4 := fun d os => Calls.regrown_of (w := W) (d := d) (os := os) (p4 _)
      have d5 := fun d os => Calls.regrown_of (w := W) (d := d) (os := os) (p5 _)
      have d6 := fun d os => Calls.regrown_of (w := W) (d := d) (os := os) (p6 _)
      have hbW : Below w.heap.size w W := by rw [hW]; exact hbel.alloc hbel.size _
      have n0 : ¬ 9223372036854775807 < T.size + S1.size := by omega
      have n1 : ¬ 9223372036854775807 < T.size + S1.size + S2.size := by omega
      have n2 : ¬ 9223372036854775807 < T.size + S1.size + S2.size + S3.size := by omega
      have n3 : ¬ 9223372036854775807 < T.size + S1.size + S2.size + S3.size + S4.size := by omega
      have n4 : ¬ 9223372036854775807 < T.size + S1.size + S2.size + S3.size + S4.size + S5.size := by omega
      have n5 : ¬ 9223372036854775807 < T.size + S1.size + S2.size + S3.size + S4.size + S5.size + S6.size := by omega
      have HW := hid hW
      clear p1 p2 p3 p4 p5 p6 hW hL hT
      go_wp2
      rw [← HW.out]
      clear a0 a1 a2 a3 a4 a5
      refine wp_region_quiet_below mixed (by kernel_rfl) ?_
      repeat (quiet_step (first | (go_at_call_of 45 (Value.int IntKind.i64 q0); exact d1 _ _) | (go_at_call_of 45 (Value.int IntKind.i64 q1); exact d2 _ _) | (go_at_call_of 45 (Value.int IntKind.i64 q2); exact d3 _ _) | (go_at_call_of 45 (Value.int IntKind.i64 q3); exact d4 _ _) | (go_at_call_of 46 (Value.string q4); exact d5 _ _) | (go_at_call_of 46 (Value.string q5); exact d6 _ _)))
      refine wpQuiet_nil ?_
      intro _ hw'
      obtain ⟨⟨dq, osq⟩, hw''⟩ := hw'
      subst hw''
      have hbX := hbW.trans ((below_regrown W dq osq).mono hbW.size)
      clear k0 k1 k2 k3 k4 k5 d1 d2 d3 d4 d5 d6 n0 n1 n2 n3 n4 n5
      go_wp2
      go_roundw
      case rel => exact ⟨k + 1, by omega, by go_num, by rw [HC.out, ← ByteArray.append_assoc, HTT.out, HLE.out, ← join7], hbX⟩
      case measure => simp [intOf]; omega
    · have hT : es.take k = es := List.take_of_length_le (by omega)
      have HT := hid hT
      clear hT
      go_wp2
      go_ret
      exact ⟨ret_str (by rw [HT.out]; rfl), hbel⟩
theorem l02Bytes_none (a : Option Addr) (c : Nat) (w : World) :
    Calls Tryd.prog 25 #[.slice a 0 c] w fun e w' => e = .returned (.string (layL [])) ∧ Below w.heap.size w w' := by
  have c0 : ∀ w, Calls Tryd.prog 45 #[.int .i64 0] w fun x w' => x = .returned (.string (numT 0)) ∧ Below w.heap.size w w' := fun w => specPutNum_any _ w (by omega) (by omega)
  have HL : Hid (numT 0 = layL []) := by show numT 0 = numT 0 ++ ByteArray.empty; simp
  generalize numT 0 = T at *
  go_enter Tryd.func25, Tryd.ntmps25
  go_wp2_with fail
  refine (c0 _).mono ?_
  rintro e w1 ⟨rfl, hb1⟩
  clear c0
  go_wp2
  go_loop [3, 4] (fun t i => t = .string T ∧ i = .int .i64 0) (fun _ _ => 0)
  case atStart => exact ⟨rfl, rfl⟩
  case round =>
    obtain ⟨rfl, rfl⟩ := hrel
    go_wp2
    go_ret
    exact ⟨ret_str HL.out, hb1⟩
theorem l02Bytes_any (v : Value) (es : List Ev) (w : World) (h : EvSl w v es) (hA : allB es = true) (hn : es.length ≤ 400) :
    Calls Tryd.prog 25 #[v] w fun e w' => e = .returned (.string (layL es)) ∧ Below w.heap.size w w' := by
  rcases h with ⟨a, c, rfl, rfl⟩ | ⟨g, o, c, rfl, _, h⟩
  · exact l02Bytes_none a c w
  · exact l02Bytes_row g o c es w h hA hn
end Go.Proofs.YticnffakngpkfaaDoor
