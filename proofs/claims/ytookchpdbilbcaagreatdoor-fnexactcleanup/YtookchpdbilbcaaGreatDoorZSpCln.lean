/-
 What spec.Cleanup answers of a right Service: a contract over the seat's program. (Made by mkcln.py.)
-/
import Derived.Test.YtookchpdbilbcaaGreatDoorZTkM5
import Derived.Test.YtookchpdbilbcaaGreatDoorZSpCpy
import Derived.Test.YtookchpdbilbcaaGreatDoorZSpRun7
import Derived.Test.YtookchpdbilbcaaGreatDoorZImTold2
import Derived.Test.YtookchpdbilbcaaGreatDoorZEvX11
import Derived.Test.YtookchpdbilbcaaGreatDoorZSpRuns
import Derived.Test.YtookchpdbilbcaaGreatDoorZSpOut4
import Derived.Deep.CutRange
set_option maxRecDepth 100000
set_option maxHeartbeats 8000000
namespace Go.Proofs.YtookchpdbilbcaaGreatDoor
open Go.RowKit Go.Sort
/-- What stays of the first so many. -/
def clE (es : List Ev) (t : Int) (k : Nat) : List Ev := (es.take k).filter fun e => !(es.any (overB e.run t))
theorem clE_yes {es : List Ev} {t : Int} {k : Nat} (hk : k < es.length) (h : es.any (overB es[k].run t) = false) : clE es t (k + 1) = clE es t k ++ [es[k]] := by
 unfold clE
 rw [List.take_succ_eq_append_getElem hk, List.filter_append]
 congr 1
 rw [List.filter_cons, h]
 rfl
theorem clE_no {es : List Ev} {t : Int} {k : Nat} (hk : k < es.length) (h : es.any (overB es[k].run t) = true) : clE es t (k + 1) = clE es t k := by
 unfold clE
 rw [List.take_succ_eq_append_getElem hk, List.filter_append, List.filter_cons, h]
 simp
structure ClnI (w V : World) (ss : List ByteArray) (fs : List Pr) (es : List Ev) (nx t : Int) (b5 : Nat) (p1 p2 : Option Addr) (q1 q2 k : Nat) (b6 : Option Addr) (c6 : Nat) (wr : World) : Prop where
 ht : wr.heap[b5]? = some (.cells #[.slice p1 ss.length q1, .slice p2 fs.length q2, .slice b6 (clE es t k).length c6, .int .i64 nx] 36 (0, 0))
 o : SvOwn wr (w.heap.size + 1 + 1) (.slice p1 ss.length q1) (.slice p2 fs.length q2) (.slice b6 (clE es t k).length c6) ss fs (clE es t k)
 b : Below (w.heap.size + 1 + 1) V wr
def ClPost (w : World) (ss : List ByteArray) (fs : List Pr) (es K : List Ev) (nx : Int) (x : Ending) (w' : World) : Prop := ∃ (rs rs' : List Int) (b1 b2 b6 : Option Addr) (c1 c2 c6 : Nat), IsRuns es rs ∧ IsRuns K rs' ∧ x = .returned (.agg #[.slice b1 ss.length c1, .slice b2 fs.length c2, .slice b6 K.length c6, .int .i64 nx, .int .i64 ((rs.length : Int) - (rs'.length : Int)), .int .i64 0]) ∧ SvOwn w' w.heap.size (.slice b1 ss.length c1) (.slice b2 fs.length c2) (.slice b6 K.length c6) ss fs K ∧ Below w.heap.size w w'
structure Cl8S (wz g o k n k6 : Nat) (er t : Int) (B : Bool) (V : World) (listed : Array Bool) (x26 x27 x28 x29 x30 x31 x32 x33 x34 x35 x36 : Value) (X : World) : Prop where
 hb : X = V.drew
 p0 : listed.getD 0 false = true → x26 = .pointer (some ⟨wz, 2, none⟩)
 p1 : listed.getD 1 false = true → x27 = .slice (some ⟨g, o, none⟩) n k6
 p2 : listed.getD 2 false = true → x28 = .pointer (some ⟨wz, 2, none⟩)
 p3 : listed.getD 3 false = true → x29 = .slice (some ⟨g, o, none⟩) n k6
 p4 : listed.getD 4 false = true → x30 = .int .i64 (k : Int)
 p5 : listed.getD 5 false = true → x31 = .pointer (some ⟨g, o + k * 6, none⟩)
 p6 : listed.getD 6 false = true → x32 = .pointer (some ⟨g, o + k * 6 + 2, none⟩)
 p7 : listed.getD 7 false = true → x33 = .int .i64 er
 p8 : listed.getD 8 false = true → x34 = .int .i64 t
 p9 : listed.getD 9 false = true → x35 = .bool B
 p10 : listed.getD 10 false = true → x36 = .bool (!B)
def Cl8R (mk : Value → Value → Value → Value → Value → Value → Value → Value → Value → Value → Value → Act) (wz g o k n k6 : Nat) (er t : Int) (B : Bool) (V : World) (listed : Array Bool) (a : Act) (X : World) : Prop := ∃ x26 x27 x28 x29 x30 x31 x32 x33 x34 x35 x36 : Value, a = mk x26 x27 x28 x29 x30 x31 x32 x33 x34 x35 x36 ∧ Cl8S wz g o k n k6 er t B V listed x26 x27 x28 x29 x30 x31 x32 x33 x34 x35 x36 X
structure Cl9A (T : Nat) (W : World) (b : Option Addr) (n c : Nat) (wz g o k m k6 : Nat) (e : Ev) (listed : Array Bool) (x37 x38 x39 x40 x41 x42 x43 x44 : Value) (X : World) : Prop where
 hb : Below W.heap.size W X
 p0 : listed.getD 0 false = true → x37 = .pointer (some ⟨T, 2, none⟩)
 p1 : listed.getD 1 false = true → x38 = .slice b n c ∧ listed.getD 0 false = true
 p2 : listed.getD 2 false = true → x39 = .pointer (some ⟨wz, 2, none⟩)
 p3 : listed.getD 3 false = true → x40 = .slice (some ⟨g, o, none⟩) m k6 ∧ listed.getD 2 false = true
 p4 : listed.getD 4 false = true → x41 = .int .i64 (k : Int)
 p5 : listed.getD 5 false = true → x42 = .pointer (some ⟨g, o + k * 6, none⟩) ∧ listed.getD 2 false = true ∧ listed.getD 3 false = true ∧ listed.getD 4 false = true
 p6 : listed.getD 6 false = true → x43 = .agg #[.int .i64 e.seq, .int .i64 e.time, .int .i64 e.run, .int .i64 e.kind, .string e.step, .string e.val] ∧ listed.getD 2 false = true ∧ listed.getD 3 false = true ∧ listed.getD 4 false = true ∧ listed.getD 5 false = true
 p7 : listed.getD 7 false = true → CellsSl X x44 6 1 [.int .i64 e.seq, .int .i64 e.time, .int .i64 e.run, .int .i64 e.kind, .string e.step, .string e.val] ∧ listed.getD 2 false = true ∧ listed.getD 3 false = true ∧ listed.getD 4 false = true ∧ listed.getD 5 false = true ∧ listed.getD 6 false = true
def Cl9R (mk : Value → Value → Value → Value → Value → Value → Value → Value → Value → Value → Act) (B T : Nat) (W : World) (b : Option Addr) (n c : Nat) (L : List Value) (wz g o k m k6 : Nat) (e : Ev) (v1 v2 v4 : Value) (listed : Array Bool) (a : Act) (X : World) : Prop :=
 ∃ x37 x38 x39 x40 x41 x42 x43 x44 x45 x46 : Value, a = mk x37 x38 x39 x40 x41 x42 x43 x44 x45 x46 ∧
  ((listed.getD 10 false = true ∧ (∀ i, i < 10 → listed.getD i false = true) ∧ ∃ b' c', X.heap[T]? = some (.cells #[v1, v2, .slice b' (n + 1) c', v4] 36 (0, 0)) ∧ X.ownsRow B 57 6 (.slice b' (n + 1) c') (n + 1) (L ++ [.int .i64 e.seq, .int .i64 e.time, .int .i64 e.run, .int .i64 e.kind, .string e.step, .string e.val]) ∧ Chg (fun j => (Value.slice b n c).ownBlock = some j ∨ j = T) W X) ∨
   (listed.getD 10 false = false ∧ listed.getD 8 false = true ∧ (∀ i, i < 8 → listed.getD i false = true) ∧ Chg (fun j => (Value.slice b n c).ownBlock = some j) W X ∧ X.ownsRow B 57 6 x45 (n + 1) (L ++ [.int .i64 e.seq, .int .i64 e.time, .int .i64 e.run, .int .i64 e.kind, .string e.step, .string e.val]) ∧ (listed.getD 9 false = true → x46 = .pointer (some ⟨T, 2, none⟩))) ∨
   (listed.getD 10 false = false ∧ listed.getD 9 false = false ∧ listed.getD 8 false = false ∧ Cl9A T W b n c wz g o k m k6 e listed x37 x38 x39 x40 x41 x42 x43 x44 X))
structure Cl10S (wz b5 : Nat) (p1 p2 a6 b6 : Option Addr) (q1 q2 k6 c6 : Nat) (ss : List ByteArray) (fs : List Pr) (es K : List Ev) (nx : Int) (V : World) (listed : Array Bool) (x47 x48 x49 x50 x51 x52 x53 x54 x55 x56 x57 : Value) (X : World) : Prop where
 hb : Below V.heap.size V X
 w0 : listed.getD 0 false = true → x47 = .agg #[.slice p1 ss.length q1, .slice p2 fs.length q2, .slice b6 K.length c6, .int .i64 nx]
 w1 : listed.getD 1 false = true → x48 = .pointer (some ⟨wz, 2, none⟩)
 w2 : listed.getD 2 false = true → x49 = .slice a6 es.length k6
 w3 : listed.getD 3 false = true → ∃ a c rs, IsRuns es rs ∧ x50 = .slice a rs.length c
 w4 : listed.getD 4 false = true → ∃ rs, IsRuns es rs ∧ x51 = .int .i64 (rs.length : Int)
 w5 : listed.getD 5 false = true → x52 = .pointer (some ⟨b5, 2, none⟩)
 w6 : listed.getD 6 false = true → x53 = .slice b6 K.length c6
 w7 : listed.getD 7 false = true → ∃ a c rs, IsRuns K rs ∧ x54 = .slice a rs.length c
 w8 : listed.getD 8 false = true → ∃ rs, IsRuns K rs ∧ x55 = .int .i64 (rs.length : Int)
 w9 : listed.getD 9 false = true → ∃ rs rs', IsRuns es rs ∧ IsRuns K rs' ∧ x56 = .int .i64 ((rs.length : Int) - (rs'.length : Int))
 w10 : listed.getD 10 false = true → ∃ rs rs', IsRuns es rs ∧ IsRuns K rs' ∧ x57 = .agg #[.slice p1 ss.length q1, .slice p2 fs.length q2, .slice b6 K.length c6, .int .i64 nx, .int .i64 ((rs.length : Int) - (rs'.length : Int)), .int .i64 0]
def Cl10F (w : World) (p1 p2 b6 : Option Addr) (q1 q2 c6 : Nat) (ss : List ByteArray) (fs : List Pr) (es K : List Ev) (nx : Int) (X : World) : Prop := ∃ (rs rs' : List Int), IsRuns es rs ∧ IsRuns K rs' ∧ X.heap[w.heap.size + 1]? = some (.cells #[.slice p1 ss.length q1, .slice p2 fs.length q2, .slice b6 K.length c6, .int .i64 nx, .int .i64 ((rs.length : Int) - (rs'.length : Int)), .int .i64 0] 38 (0, 0)) ∧ SvOwn X w.heap.size (.slice p1 ss.length q1) (.slice p2 fs.length q2) (.slice b6 K.length c6) ss fs K ∧ Below w.heap.size w X
def Cl10R (mk : Value → Value → Value → Value → Value → Value → Value → Value → Value → Value → Value → Act) (F : World → Prop) (wz b5 : Nat) (p1 p2 a6 b6 : Option Addr) (q1 q2 k6 c6 : Nat) (ss : List ByteArray) (fs : List Pr) (es K : List Ev) (nx : Int) (V : World) (listed : Array Bool) (a : Act) (X : World) : Prop := ∃ x47 x48 x49 x50 x51 x52 x53 x54 x55 x56 x57 : Value, a = mk x47 x48 x49 x50 x51 x52 x53 x54 x55 x56 x57 ∧ ((listed.getD 11 false = true ∧ (∀ i, i < 11 → listed.getD i false = true) ∧ F X) ∨ (listed.getD 11 false = false ∧ Cl10S wz b5 p1 p2 a6 b6 q1 q2 k6 c6 ss fs es K nx V listed x47 x48 x49 x50 x51 x52 x53 x54 x55 x56 x57 X))
theorem ZDI (a1 a2 a6 : Option Addr) (k1 k2 k6 : Nat) (ss : List ByteArray) (fs : List Pr) (es : List Ev) (nx t : Int) (w : World) (hD : DefSl w a1 a2 k1 k2 ss fs) (hE : EvSl w (.slice a6 es.length k6) es) (hP : SvP ss fs es nx) (hT : timB t = true) (F1 : ∀ i, (h : i < ss.length) → ss[i].size ≤ maxLen) (FE : Fit es) (n1 : ss.length ≤ maxLen) (n2 : fs.length ≤ maxLen) (n6 : es.length ≤ maxLen) :
  Calls Tryz.prog 18 #[svV a1 a2 a6 k1 k2 k6 ss fs es nx, .int .i64 t] w fun x w' => ClPost w ss fs es (clE es t es.length) nx x w' := by
 have mixed : Tryz.prog.follows .mixedOrders = true := by kernel_rfl
 obtain ⟨m0, hm, hm0, hm1, hm2⟩ := info_parts Tryz.infoEvt
 have HD := hid hD
 have HE := hid hE
 have HP := hid hP
 have HFE := hid FE
 have HS := hid (show es.length ≤ 200 from hP.h.n)
 have HBW := hid (show Below w.heap.size w ((w.alloc (.cells #[.slice a1 ss.length k1, .slice a2 fs.length k2, .slice a6 es.length k6, .int .i64 nx] 36)).alloc (.cells #[.slice none 0 0, .slice none 0 0, .slice none 0 0, .int .i64 0, .int .i64 0, .int .i64 0] 38)) from below2 _ _ _)
 have HZ := hid (show ((w.alloc (.cells #[.slice a1 ss.length k1, .slice a2 fs.length k2, .slice a6 es.length k6, .int .i64 nx] 36)).alloc (.cells #[.slice none 0 0, .slice none 0 0, .slice none 0 0, .int .i64 0, .int .i64 0, .int .i64 0] 38)).heap.size = w.heap.size + 1 + 1 by simp)
 have HA := hid (show ((w.alloc (.cells #[.slice a1 ss.length k1, .slice a2 fs.length k2, .slice a6 es.length k6, .int .i64 nx] 36)).alloc (.cells #[.slice none 0 0, .slice none 0 0, .slice none 0 0, .int .i64 0, .int .i64 0, .int .i64 0] 38)).heap[w.heap.size]? = some (.cells #[.slice a1 ss.length k1, .slice a2 fs.length k2, .slice a6 es.length k6, .int .i64 nx] 36 (0, 0)) from (Below.heap_alloc _ _ _ (by simp)).trans (heap_alloc_new w _))
 have HR := hid (show ((w.alloc (.cells #[.slice a1 ss.length k1, .slice a2 fs.length k2, .slice a6 es.length k6, .int .i64 nx] 36)).alloc (.cells #[.slice none 0 0, .slice none 0 0, .slice none 0 0, .int .i64 0, .int .i64 0, .int .i64 0] 38)).heap[w.heap.size + 1]? = some (.cells #[.slice none 0 0, .slice none 0 0, .slice none 0 0, .int .i64 0, .int .i64 0, .int .i64 0] 38 (0, 0)) by have h := heap_alloc_new (w.alloc (.cells #[.slice a1 ss.length k1, .slice a2 fs.length k2, .slice a6 es.length k6, .int .i64 nx] 36)) (.cells #[.slice none 0 0, .slice none 0 0, .slice none 0 0, .int .i64 0, .int .i64 0, .int .i64 0] 38); rw [World.size_alloc] at h; exact h)
 have cR := hid (fun V hD hE => ZAr a1 a2 a6 k1 k2 k6 ss fs es nx V hD hE F1 FE n1 n2 n6)
 have cT := hid (fun V => ZBg t V)
 clear hD hE hP FE F1 n1 n2 n6
 go_enter Tryz.func18, Tryz.ntmps18
 go_upto_region 1 with fail
 generalize ((w.alloc (.cells #[.slice a1 ss.length k1, .slice a2 fs.length k2, .slice a6 es.length k6, .int .i64 nx] 36)).alloc (.cells #[.slice none 0 0, .slice none 0 0, .slice none 0 0, .int .i64 0, .int .i64 0, .int .i64 0] 38)) = W at *
 have x0 : W.cell? ⟨w.heap.size, 0, none⟩ = some (.slice a1 ss.length k1) := ce HA.out rfl
 have x1 : W.cell? ⟨w.heap.size, 1, none⟩ = some (.slice a2 fs.length k2) := ce HA.out rfl
 have x2 : W.cell? ⟨w.heap.size, 2, none⟩ = some (.slice a6 es.length k6) := ce HA.out rfl
 have x3 : W.cell? ⟨w.heap.size, 3, none⟩ = some (.int .i64 nx) := ce HA.out rfl
 go_wp2_with fail
 refine (cR.out W (HD.out.stay HBW.out) (HE.out.stay HBW.out nL)).mono ?_
 rintro x V1 ⟨hx, hb1⟩
 obtain rfl := hx.yes HP.out
 have HB1 := hid (HBW.out.trans (hb1.mono HBW.out.size))
 have HR1 := hid ((hb1.block _ (ZAA HR.out)).trans HR.out)
 have HA1 := hid ((hb1.block _ (ZAA HA.out)).trans HA.out)
 have hz1 := hb1.size
 have hzz := HZ.out
 clear hb1 x0 x1 x2 x3 hx cR
 go_wp2_with fail
 refine (cT.out V1).mono ?_
 rintro x V1' ⟨rfl, hq⟩
 rw [hq, hT]
 clear hq cT
 have x0 : V1.cell? ⟨w.heap.size, 0, none⟩ = some (.slice a1 ss.length k1) := ce HA1.out rfl
 have x1 : V1.cell? ⟨w.heap.size, 1, none⟩ = some (.slice a2 fs.length k2) := ce HA1.out rfl
 have x2 : V1.cell? ⟨w.heap.size, 2, none⟩ = some (.slice a6 es.length k6) := ce HA1.out rfl
 have x3 : V1.cell? ⟨w.heap.size, 3, none⟩ = some (.int .i64 nx) := ce HA1.out rfl
 go_wp2_with fail
 refine (ZFX a1 a2 a6 k1 k2 k6 ss fs es nx V1 (HD.out.stay HB1.out) (HE.out.stay HB1.out nL) (by have := HP.out.h.d.1.n2; omega) (by have := HP.out.h.d.2.m; omega) (by have := HS.out; omega)).mono ?_
 rintro x V2 ⟨p1, p2, p6, q1, q2, q6, rfl, hO2, hb2⟩
 have HK3 := hid (heap_alloc_new V2 (.cells #[.slice p1 ss.length q1, .slice p2 fs.length q2, .slice none 0 0, .int .i64 nx] 36))
 have hbx : Below V2.heap.size V2 (V2.alloc (.cells #[.slice p1 ss.length q1, .slice p2 fs.length q2, .slice none 0 0, .int .i64 nx] 36)) := (bR _ _).alloc nL _
 have hz2 := hb2.size
 have HO3 := hid (show SvOwn (V2.alloc (.cells #[.slice p1 ss.length q1, .slice p2 fs.length q2, .slice none 0 0, .int .i64 nx] 36)) (w.heap.size + 1 + 1) (.slice p1 ss.length q1) (.slice p2 fs.length q2) (.slice none ([] : List Ev).length 0) ss fs [] from ⟨DefOwn.stay ⟨ZAI hO2.d.o1 (by omega), ZAI hO2.d.o2 (by omega)⟩ hbx, World.ownsRow_nil _ _ _ _⟩)
 have HB3 := hid (show Below (w.heap.size + 1 + 1) V1 (V2.alloc (.cells #[.slice p1 ss.length q1, .slice p2 fs.length q2, .slice none 0 0, .int .i64 nx] 36)) from (hb2.mono (by omega)).trans (hbx.mono (by omega)))
 have h5 : w.heap.size + 1 + 1 ≤ V2.heap.size := by omega
 clear hbx hO2 hb2 x0 x1 x2 x3
 go_upto_region 5 with fail
 generalize (V2.alloc (.cells #[.slice p1 ss.length q1, .slice p2 fs.length q2, .slice none 0 0, .int .i64 nx] 36)) = V3 at *
 generalize hb5 : V2.heap.size = b5 at *
 clear hb5
 go_wp2_with fail
 go_loopw [6] (fun i wr => ∃ k : Nat, k ≤ es.length ∧ i = .int .i64 k ∧ ∃ b6 c6, ClnI w V1 ss fs es nx t b5 p1 p2 q1 q2 k b6 c6 wr) (fun i _ => es.length - (intOf i).toNat)
 case atStart => exact ⟨0, Nat.zero_le _, rfl, none, 0, ⟨by simpa [clE] using HK3.out, by simpa [clE] using HO3.out, HB3.out⟩⟩
 case round =>
  obtain ⟨k, hk, rfl, b6, c6, hI⟩ := hrel
  have HI := hid hI
  have hszr : w.heap.size + 1 + 1 ≤ wr.heap.size := by have := hI.b.size; omega
  clear hI HO3 HK3 HB3
  have HR0 := hid ((HI.out.b.block (w.heap.size + 1) (by omega)).trans HR1.out)
  have HA0 := hid ((HI.out.b.block w.heap.size (by omega)).trans HA1.out)
  have hBr := hid (HB1.out.trans (HI.out.b.mono (by omega)))
  have x2 : wr.cell? ⟨w.heap.size, 2, none⟩ = some (.slice a6 es.length k6) := ce HA0.out rfl
  have hs2 : es.length ≤ 200 := HS.out
  by_cases hlk : k < es.length
  ·obtain ⟨g, o, rfl, hQ⟩ := HE.out.row (by omega)
   obtain ⟨e0, e1, e2, e3, e4, e5⟩ := (hQ.stay hBr.out nL).2 k hlk
   have cO := hid (ZF1 (some ⟨g, o, none⟩) k6 es es[k].run t wr.drew (HE.out.stay hBr.out.drew nL) (by have := HS.out; omega))
   have HY := hid (clE_yes (t := t) hlk)
   have HN := hid (clE_no (t := t) hlk)
   generalize es[k] = e at *
   obtain ⟨es0, et, er, ek, est, ev⟩ := e
   dsimp only at *
   have d2 : wr.drew.cell? ⟨w.heap.size, 2, none⟩ = some (.slice (some ⟨g, o, none⟩) es.length k6) := x2
   have d6 : wr.drew.cell? ⟨g, o + k * 6 + 2, none⟩ = some (.int .i64 er) := e2
   generalize hB : es.any (overB er t) = B at *
   have HB := hid hB
   clear hB
   go_upto_region 8 with fail
   refine ZAR mixed (Cl8R (fun x26 x27 x28 x29 x30 x31 x32 x33 x34 x35 x36 => { tmps := #[svV a1 a2 (some ⟨g, o, none⟩) k1 k2 k6 ss fs es nx, .int .i64 t, .pointer (some ⟨w.heap.size, 0, none⟩), undef, .pointer (some ⟨w.heap.size + 1, 0, none⟩), .pointer (some ⟨b5, 0, none⟩), .int .i64 (k : Int), .agg #[.slice a1 ss.length k1, .slice a2 fs.length k2, .slice (some ⟨g, o, none⟩) es.length k6, .int .i64 nx], .bool true, .bool false, .bool false, .int .i64 t, .bool true, .bool false, .bool false, undef, .agg #[.slice a1 ss.length k1, .slice a2 fs.length k2, .slice (some ⟨g, o, none⟩) es.length k6, .int .i64 nx], svV p1 p2 p6 q1 q2 q6 ss fs es nx, .pointer (some ⟨b5, 2, none⟩), .int .i64 (k : Int), .pointer (some ⟨w.heap.size, 2, none⟩), .slice (some ⟨g, o, none⟩) es.length k6, .int .i64 (es.length : Int), .bool true, u24, u25, x26, x27, x28, x29, x30, x31, x32, x33, x34, x35, x36, u37, u38, u39, u40, u41, u42, u43, u44, u45, u46, undef, undef, undef, undef, undef, undef, undef, undef, undef, undef, undef], defers := [] }) w.heap.size g o k es.length k6 er t B wr) ?ac ?start ?step ?fin
   case ac => exact ZCG (by kernel_rfl)
   case start =>
    refine ⟨u26, u27, u28, u29, u30, u31, u32, u33, u34, u35, u36, rfl, ?_⟩
    constructor
    ·rfl
    all_goals (intro h; simp at h)
   case step =>
    rintro i listed a X ⟨x26, x27, x28, x29, x30, x31, x32, x33, x34, x35, x36, rfl, hS⟩ hun ⟨op9, ho, hdep⟩
    have hlt : i < 11 := (Array.getElem?_eq_some_iff.1 ho).1
    obtain rfl := hS.hb
    match i, hlt with
    | 0, _ =>
     obtain rfl := Option.some.inj ho
     refine ZAH rfl rfl ?_
     go_simp
     refine ⟨.pointer (some ⟨w.heap.size, 2, none⟩), x27, x28, x29, x30, x31, x32, x33, x34, x35, x36, rfl, ?_⟩
     constructor
     ·rfl
     ·exact fun _ => rfl
     ·exact fun h => hS.p1 (gO h)
     ·exact fun h => hS.p2 (gO h)
     ·exact fun h => hS.p3 (gO h)
     ·exact fun h => hS.p4 (gO h)
     ·exact fun h => hS.p5 (gO h)
     ·exact fun h => hS.p6 (gO h)
     ·exact fun h => hS.p7 (gO h)
     ·exact fun h => hS.p8 (gO h)
     ·exact fun h => hS.p9 (gO h)
     ·exact fun h => hS.p10 (gO h)
    | 1, _ =>
     obtain rfl := Option.some.inj ho
     have q0 := hdep ⟨0, .data⟩ (by simp) rfl
     obtain rfl := hS.p0 q0
     refine ZAH rfl rfl ?_
     go_simp
     refine ⟨.pointer (some ⟨w.heap.size, 2, none⟩), .slice (some ⟨g, o, none⟩) es.length k6, x28, x29, x30, x31, x32, x33, x34, x35, x36, rfl, ?_⟩
     constructor
     ·rfl
     ·exact fun h => hS.p0 (gO h)
     ·exact fun _ => rfl
     ·exact fun h => hS.p2 (gO h)
     ·exact fun h => hS.p3 (gO h)
     ·exact fun h => hS.p4 (gO h)
     ·exact fun h => hS.p5 (gO h)
     ·exact fun h => hS.p6 (gO h)
     ·exact fun h => hS.p7 (gO h)
     ·exact fun h => hS.p8 (gO h)
     ·exact fun h => hS.p9 (gO h)
     ·exact fun h => hS.p10 (gO h)
    | 2, _ =>
     obtain rfl := Option.some.inj ho
     refine ZAH rfl rfl ?_
     go_simp
     refine ⟨x26, x27, .pointer (some ⟨w.heap.size, 2, none⟩), x29, x30, x31, x32, x33, x34, x35, x36, rfl, ?_⟩
     constructor
     ·rfl
     ·exact fun h => hS.p0 (gO h)
     ·exact fun h => hS.p1 (gO h)
     ·exact fun _ => rfl
     ·exact fun h => hS.p3 (gO h)
     ·exact fun h => hS.p4 (gO h)
     ·exact fun h => hS.p5 (gO h)
     ·exact fun h => hS.p6 (gO h)
     ·exact fun h => hS.p7 (gO h)
     ·exact fun h => hS.p8 (gO h)
     ·exact fun h => hS.p9 (gO h)
     ·exact fun h => hS.p10 (gO h)
    | 3, _ =>
     obtain rfl := Option.some.inj ho
     have q2 := hdep ⟨2, .data⟩ (by simp) rfl
     obtain rfl := hS.p2 q2
     refine ZAH rfl rfl ?_
     go_simp
     refine ⟨x26, x27, .pointer (some ⟨w.heap.size, 2, none⟩), .slice (some ⟨g, o, none⟩) es.length k6, x30, x31, x32, x33, x34, x35, x36, rfl, ?_⟩
     constructor
     ·rfl
     ·exact fun h => hS.p0 (gO h)
     ·exact fun h => hS.p1 (gO h)
     ·exact fun h => hS.p2 (gO h)
     ·exact fun _ => rfl
     ·exact fun h => hS.p4 (gO h)
     ·exact fun h => hS.p5 (gO h)
     ·exact fun h => hS.p6 (gO h)
     ·exact fun h => hS.p7 (gO h)
     ·exact fun h => hS.p8 (gO h)
     ·exact fun h => hS.p9 (gO h)
     ·exact fun h => hS.p10 (gO h)
    | 4, _ =>
     obtain rfl := Option.some.inj ho
     refine ZAH rfl rfl ?_
     go_simp
     refine ⟨x26, x27, x28, x29, .int .i64 (k : Int), x31, x32, x33, x34, x35, x36, rfl, ?_⟩
     constructor
     ·rfl
     ·exact fun h => hS.p0 (gO h)
     ·exact fun h => hS.p1 (gO h)
     ·exact fun h => hS.p2 (gO h)
     ·exact fun h => hS.p3 (gO h)
     ·exact fun _ => rfl
     ·exact fun h => hS.p5 (gO h)
     ·exact fun h => hS.p6 (gO h)
     ·exact fun h => hS.p7 (gO h)
     ·exact fun h => hS.p8 (gO h)
     ·exact fun h => hS.p9 (gO h)
     ·exact fun h => hS.p10 (gO h)
    | 5, _ =>
     obtain rfl := Option.some.inj ho
     have q3 := hdep ⟨3, .data⟩ (by simp) rfl
     obtain rfl := hS.p3 q3
     have q4 := hdep ⟨4, .data⟩ (by simp) rfl
     obtain rfl := hS.p4 q4
     refine ZAH rfl rfl ?_
     go_simp
     refine ⟨x26, x27, x28, .slice (some ⟨g, o, none⟩) es.length k6, .int .i64 (k : Int), .pointer (some ⟨g, o + k * 6, none⟩), x32, x33, x34, x35, x36, rfl, ?_⟩
     constructor
     ·rfl
     ·exact fun h => hS.p0 (gO h)
     ·exact fun h => hS.p1 (gO h)
     ·exact fun h => hS.p2 (gO h)
     ·exact fun h => hS.p3 (gO h)
     ·exact fun h => hS.p4 (gO h)
     ·exact fun _ => rfl
     ·exact fun h => hS.p6 (gO h)
     ·exact fun h => hS.p7 (gO h)
     ·exact fun h => hS.p8 (gO h)
     ·exact fun h => hS.p9 (gO h)
     ·exact fun h => hS.p10 (gO h)
    | 6, _ =>
     obtain rfl := Option.some.inj ho
     have q5 := hdep ⟨5, .data⟩ (by simp) rfl
     obtain rfl := hS.p5 q5
     refine ZAH rfl rfl ?_
     go_simp
     refine ⟨x26, x27, x28, x29, x30, .pointer (some ⟨g, o + k * 6, none⟩), .pointer (some ⟨g, o + k * 6 + 2, none⟩), x33, x34, x35, x36, rfl, ?_⟩
     constructor
     ·rfl
     ·exact fun h => hS.p0 (gO h)
     ·exact fun h => hS.p1 (gO h)
     ·exact fun h => hS.p2 (gO h)
     ·exact fun h => hS.p3 (gO h)
     ·exact fun h => hS.p4 (gO h)
     ·exact fun h => hS.p5 (gO h)
     ·exact fun _ => rfl
     ·exact fun h => hS.p7 (gO h)
     ·exact fun h => hS.p8 (gO h)
     ·exact fun h => hS.p9 (gO h)
     ·exact fun h => hS.p10 (gO h)
    | 7, _ =>
     obtain rfl := Option.some.inj ho
     have q6 := hdep ⟨6, .data⟩ (by simp) rfl
     obtain rfl := hS.p6 q6
     refine ZAH rfl rfl ?_
     go_simp
     refine ⟨x26, x27, x28, x29, x30, x31, .pointer (some ⟨g, o + k * 6 + 2, none⟩), .int .i64 er, x34, x35, x36, rfl, ?_⟩
     constructor
     ·rfl
     ·exact fun h => hS.p0 (gO h)
     ·exact fun h => hS.p1 (gO h)
     ·exact fun h => hS.p2 (gO h)
     ·exact fun h => hS.p3 (gO h)
     ·exact fun h => hS.p4 (gO h)
     ·exact fun h => hS.p5 (gO h)
     ·exact fun h => hS.p6 (gO h)
     ·exact fun _ => rfl
     ·exact fun h => hS.p8 (gO h)
     ·exact fun h => hS.p9 (gO h)
     ·exact fun h => hS.p10 (gO h)
    | 8, _ =>
     obtain rfl := Option.some.inj ho
     refine ZAH rfl rfl ?_
     go_simp
     refine ⟨x26, x27, x28, x29, x30, x31, x32, x33, .int .i64 t, x35, x36, rfl, ?_⟩
     constructor
     ·rfl
     ·exact fun h => hS.p0 (gO h)
     ·exact fun h => hS.p1 (gO h)
     ·exact fun h => hS.p2 (gO h)
     ·exact fun h => hS.p3 (gO h)
     ·exact fun h => hS.p4 (gO h)
     ·exact fun h => hS.p5 (gO h)
     ·exact fun h => hS.p6 (gO h)
     ·exact fun h => hS.p7 (gO h)
     ·exact fun _ => rfl
     ·exact fun h => hS.p9 (gO h)
     ·exact fun h => hS.p10 (gO h)
    | 9, _ =>
     obtain rfl := Option.some.inj ho
     have q1 := hdep ⟨1, .data⟩ (by simp) rfl
     obtain rfl := hS.p1 q1
     have q7 := hdep ⟨7, .data⟩ (by simp) rfl
     obtain rfl := hS.p7 q7
     have q8 := hdep ⟨8, .data⟩ (by simp) rfl
     obtain rfl := hS.p8 q8
     refine ZAH rfl rfl ?_
     go_simp
     refine (cO.out).mono ?_
     rintro e9 X' ⟨rfl, rfl⟩
     refine ⟨x26, .slice (some ⟨g, o, none⟩) es.length k6, x28, x29, x30, x31, x32, .int .i64 er, .int .i64 t, .bool B, x36, rfl, ?_⟩
     constructor
     ·rfl
     ·exact fun h => hS.p0 (gO h)
     ·exact fun h => hS.p1 (gO h)
     ·exact fun h => hS.p2 (gO h)
     ·exact fun h => hS.p3 (gO h)
     ·exact fun h => hS.p4 (gO h)
     ·exact fun h => hS.p5 (gO h)
     ·exact fun h => hS.p6 (gO h)
     ·exact fun h => hS.p7 (gO h)
     ·exact fun h => hS.p8 (gO h)
     ·exact fun _ => rfl
     ·exact fun h => hS.p10 (gO h)
    | 10, _ =>
     obtain rfl := Option.some.inj ho
     have q9 := hdep ⟨9, .data⟩ (by simp) rfl
     obtain rfl := hS.p9 q9
     refine ZAH rfl rfl ?_
     go_simp
     refine ⟨x26, x27, x28, x29, x30, x31, x32, x33, x34, .bool B, .bool (!B), rfl, ?_⟩
     constructor
     ·rfl
     ·exact fun h => hS.p0 (gO h)
     ·exact fun h => hS.p1 (gO h)
     ·exact fun h => hS.p2 (gO h)
     ·exact fun h => hS.p3 (gO h)
     ·exact fun h => hS.p4 (gO h)
     ·exact fun h => hS.p5 (gO h)
     ·exact fun h => hS.p6 (gO h)
     ·exact fun h => hS.p7 (gO h)
     ·exact fun h => hS.p8 (gO h)
     ·exact fun h => hS.p9 (gO h)
     ·exact fun _ => rfl
   case fin =>
    rintro listed a X ⟨x26, x27, x28, x29, x30, x31, x32, x33, x34, x35, x36, rfl, hS⟩ hall
    obtain rfl := hS.hb
    obtain rfl := hS.p0 (hall 0 (by decide))
    obtain rfl := hS.p1 (hall 1 (by decide))
    obtain rfl := hS.p2 (hall 2 (by decide))
    obtain rfl := hS.p3 (hall 3 (by decide))
    obtain rfl := hS.p4 (hall 4 (by decide))
    obtain rfl := hS.p5 (hall 5 (by decide))
    obtain rfl := hS.p6 (hall 6 (by decide))
    obtain rfl := hS.p7 (hall 7 (by decide))
    obtain rfl := hS.p8 (hall 8 (by decide))
    obtain rfl := hS.p9 (hall 9 (by decide))
    obtain rfl := hS.p10 (hall 10 (by decide))
    clear hS hall
    have hBW : w.heap.size + 1 + 1 ≤ wr.drew.heap.size := hszr
    cases B with
    | true =>
     have HNo := hid (HN.out rfl)
     go_wp2_with fail
     refine ⟨⟨k + 1, by omega, by simp, b6, c6, ⟨?_, ?_, ?_⟩⟩, by simp [intOf]; omega⟩
     ·rw [HNo.out]; exact HI.out.ht
     ·rw [HNo.out]; exact SvOwn.stay HI.out.o ((Below.refl _ wr).drew)
     ·exact HI.out.b.drew
    | false =>
     have HOk := hid (show wr.drew.ownsRow (w.heap.size + 1 + 1) 57 6 (.slice b6 (clE es t k).length c6) (clE es t k).length ((clE es t k).flatMap Ev.cells) from HI.out.o.o6)
     have HTk := hid (show wr.drew.heap[b5]? = some (.cells #[.slice p1 ss.length q1, .slice p2 fs.length q2, .slice b6 (clE es t k).length c6, .int .i64 nx] 36 (0, 0)) from HI.out.ht)
     have HAk := hid (show wr.drew.heap[w.heap.size]? = some (.cells #[.slice a1 ss.length k1, .slice a2 fs.length k2, .slice (some ⟨g, o, none⟩) es.length k6, .int .i64 nx] 36 (0, 0)) from HA0.out)
     have hEk := hid (show (clE es t k).length ≤ 200 from Nat.le_trans (List.length_filter_le _ _) (Nat.le_trans (List.length_take_le _ _) (by have := HS.out; omega)))
     obtain ⟨L, hL⟩ : ∃ L, L = (clE es t k).flatMap Ev.cells := ⟨_, rfl⟩
     rw [← hL] at HOk
     have HL := hid hL
     clear hL
     have hgw : g < wr.drew.heap.size := Nat.lt_of_lt_of_le hQ.1 hBr.out.size
     have HYs := hid (HY.out rfl)
     go_upto_region 9 with fail
     refine ZAR mixed (Cl9R (fun x37 x38 x39 x40 x41 x42 x43 x44 x45 x46 => { tmps := #[svV a1 a2 (some ⟨g, o, none⟩) k1 k2 k6 ss fs es nx, .int .i64 t, .pointer (some ⟨w.heap.size, 0, none⟩), undef, .pointer (some ⟨w.heap.size + 1, 0, none⟩), .pointer (some ⟨b5, 0, none⟩), .int .i64 (k : Int), .agg #[.slice a1 ss.length k1, .slice a2 fs.length k2, .slice (some ⟨g, o, none⟩) es.length k6, .int .i64 nx], .bool true, .bool false, .bool false, .int .i64 t, .bool true, .bool false, .bool false, undef, .agg #[.slice a1 ss.length k1, .slice a2 fs.length k2, .slice (some ⟨g, o, none⟩) es.length k6, .int .i64 nx], svV p1 p2 p6 q1 q2 q6 ss fs es nx, .pointer (some ⟨b5, 2, none⟩), .int .i64 (k : Int), .pointer (some ⟨w.heap.size, 2, none⟩), .slice (some ⟨g, o, none⟩) es.length k6, .int .i64 (es.length : Int), .bool true, u24, u25, .pointer (some ⟨w.heap.size, 2, none⟩), .slice (some ⟨g, o, none⟩) es.length k6, .pointer (some ⟨w.heap.size, 2, none⟩), .slice (some ⟨g, o, none⟩) es.length k6, .int .i64 (k : Int), .pointer (some ⟨g, o + k * 6, none⟩), .pointer (some ⟨g, o + k * 6 + 2, none⟩), .int .i64 er, .int .i64 t, .bool false, .bool true, x37, x38, x39, x40, x41, x42, x43, x44, x45, x46, undef, undef, undef, undef, undef, undef, undef, undef, undef, undef, undef], defers := [] }) (w.heap.size + 1 + 1) (b5) wr.drew b6 ((clE es t k).length) c6 (L) w.heap.size g o k es.length k6 ⟨es0, et, er, ek, est, ev⟩ (.slice p1 ss.length q1) (.slice p2 fs.length q2) (.int .i64 nx)) ?ac ?start ?step ?fin
     case ac => exact ZCG (by kernel_rfl)
     case start =>
      refine ⟨u37, u38, u39, u40, u41, u42, u43, u44, u45, u46, rfl, .inr (.inr ⟨rfl, rfl, rfl, ?_⟩)⟩
      constructor
      ·exact (Below.refl _ wr.drew).drew
      all_goals (intro h; simp at h)
     case step =>
      rintro i listed a X ⟨x37, x38, x39, x40, x41, x42, x43, x44, x45, x46, rfl, hR⟩ hun ⟨op9, ho, hdep⟩
      have hlt : i < 11 := (Array.getElem?_eq_some_iff.1 ho).1
      rcases hR with ⟨hst, hall, _⟩ | ⟨hst, hap, hall, hC, hO, hfa⟩ | ⟨hst, hfa, hap, hS⟩
      ·by_cases e9 : i = 10
       ·subst e9; exact ZAS hst hun
       ·exact ZAS (hall i (by omega)) hun
      ·match i, hlt with
       | 0, _ => exact ZAS (hall 0 (by decide)) hun
       | 1, _ => exact ZAS (hall 1 (by decide)) hun
       | 2, _ => exact ZAS (hall 2 (by decide)) hun
       | 3, _ => exact ZAS (hall 3 (by decide)) hun
       | 4, _ => exact ZAS (hall 4 (by decide)) hun
       | 5, _ => exact ZAS (hall 5 (by decide)) hun
       | 6, _ => exact ZAS (hall 6 (by decide)) hun
       | 7, _ => exact ZAS (hall 7 (by decide)) hun
       | 8, _ => exact ZAS hap hun
       | 9, _ =>
        obtain rfl := Option.some.inj ho
        refine ZAH rfl rfl ?_
        go_simp
        refine ⟨x37, x38, x39, x40, x41, x42, x43, x44, x45, .pointer (some ⟨b5, 2, none⟩), rfl, .inr (.inl ⟨by rw [getD_set_ne false (by decide)]; exact hst, by rw [getD_set_ne false (by decide)]; exact hap, fun j hj => getD_set_true (hall j hj), hC, hO, fun _ => rfl⟩)⟩
       | 10, _ =>
        obtain rfl := Option.some.inj ho
        have q9 := hdep ⟨9, .data⟩ (by simp) rfl
        obtain rfl := hfa q9
        obtain ⟨b9, c9, rfl⟩ := ZAD hO
        have hR := (hC.block _ (ZAA HTk.out) (fun e => ZAL HOk.out HTk.out (by decide) _ e rfl)).trans HTk.out
        have r0 : X.cell? ⟨b5, 2, none⟩ = some (.slice b6 (clE es t k).length c6) := ce hR rfl
        have rf := Lib.frozen_of_heap hR
        refine ZAH rfl rfl ?_
        go_simp
        refine ⟨x37, x38, x39, x40, x41, x42, x43, x44, .slice b9 ((clE es t k).length + 1) c9, .pointer (some ⟨b5, 2, none⟩), rfl, .inl ⟨ZAX hun, fun j hj => ?_, b9, c9, ?_, ?_, ?_⟩⟩
        ·by_cases e9 : j = 9
         ·subst e9; exact getD_set_true q9
         ·by_cases e8 : j = 8
          ·subst e8; exact getD_set_true hap
          ·exact getD_set_true (hall j (by omega))
        ·exact ZAG (L := [_, _, _, _]) (i := 2) hR _
        ·exact ZAJ hO (Chg.of_grown (p := fun j => j = b5) (ZAF _ (b5) 2 _) rfl) (ZAL hO hR (by decide))
        ·exact (hC.mono (fun _ h => .inl h)).trans (Chg.of_grown (ZAF _ (b5) 2 _) (.inr rfl))
      ·have c0 : X.cell? ⟨b5, 2, none⟩ = some (.slice b6 (clE es t k).length c6) := (hS.hb.cell (p := ⟨b5, 2, none⟩) (ZAA HTk.out)).trans (ce HTk.out rfl)
       have d9 : X.cell? ⟨w.heap.size, 2, none⟩ = some (.slice (some ⟨g, o, none⟩) es.length k6) := (hS.hb.cell (p := ⟨w.heap.size, 2, none⟩) (ZAA HAk.out)).trans (ce HAk.out rfl)
       have y0 : X.cell? ⟨g, o + k * 6, none⟩ = some (.int .i64 es0) := (hS.hb.cell (p := ⟨g, o + k * 6, none⟩) hgw).trans e0
       have y1 : X.cell? ⟨g, o + k * 6 + 1, none⟩ = some (.int .i64 et) := (hS.hb.cell (p := ⟨g, o + k * 6 + 1, none⟩) hgw).trans e1
       have y2 : X.cell? ⟨g, o + k * 6 + 2, none⟩ = some (.int .i64 er) := (hS.hb.cell (p := ⟨g, o + k * 6 + 2, none⟩) hgw).trans e2
       have y3 : X.cell? ⟨g, o + k * 6 + 3, none⟩ = some (.int .i64 ek) := (hS.hb.cell (p := ⟨g, o + k * 6 + 3, none⟩) hgw).trans e3
       have y4 : X.cell? ⟨g, o + k * 6 + 4, none⟩ = some (.string est) := (hS.hb.cell (p := ⟨g, o + k * 6 + 4, none⟩) hgw).trans e4
       have y5 : X.cell? ⟨g, o + k * 6 + 5, none⟩ = some (.string ev) := (hS.hb.cell (p := ⟨g, o + k * 6 + 5, none⟩) hgw).trans e5
       match i, hlt with
       | 0, _ =>
        obtain rfl := Option.some.inj ho
        refine ZAH rfl rfl ?_
        go_simp
        refine ⟨.pointer (some ⟨b5, 2, none⟩), x38, x39, x40, x41, x42, x43, x44, x45, x46, rfl, .inr (.inr ⟨by rw [getD_set_ne false (by decide)]; exact hst, by rw [getD_set_ne false (by decide)]; exact hfa, by rw [getD_set_ne false (by decide)]; exact hap, ?_⟩)⟩
        constructor
        ·exact hS.hb
        ·exact fun _ => rfl
        ·exact fun h => ZAS (hS.p1 (gO h)).2 hun
        ·exact fun h => hS.p2 (gO h)
        ·intro h; have g := hS.p3 (gO h); exact ⟨g.1, getD_set_true g.2⟩
        ·exact fun h => hS.p4 (gO h)
        ·intro h; have g := hS.p5 (gO h); exact ⟨g.1, getD_set_true g.2.1, getD_set_true g.2.2.1, getD_set_true g.2.2.2⟩
        ·intro h; have g := hS.p6 (gO h); exact ⟨g.1, getD_set_true g.2.1, getD_set_true g.2.2.1, getD_set_true g.2.2.2.1, getD_set_true g.2.2.2.2⟩
        ·intro h; have g := hS.p7 (gO h); exact ⟨g.1, getD_set_true g.2.1, getD_set_true g.2.2.1, getD_set_true g.2.2.2.1, getD_set_true g.2.2.2.2.1, getD_set_true g.2.2.2.2.2⟩
       | 1, _ =>
        obtain rfl := Option.some.inj ho
        have q0 := hdep ⟨0, .data⟩ (by simp) rfl
        obtain rfl := hS.p0 q0
        refine ZAH rfl rfl ?_
        go_simp
        refine ⟨.pointer (some ⟨b5, 2, none⟩), .slice b6 (clE es t k).length c6, x39, x40, x41, x42, x43, x44, x45, x46, rfl, .inr (.inr ⟨by rw [getD_set_ne false (by decide)]; exact hst, by rw [getD_set_ne false (by decide)]; exact hfa, by rw [getD_set_ne false (by decide)]; exact hap, ?_⟩)⟩
        constructor
        ·exact hS.hb
        ·exact fun h => hS.p0 (gO h)
        ·exact fun _ => ⟨rfl, getD_set_true q0⟩
        ·exact fun h => hS.p2 (gO h)
        ·intro h; have g := hS.p3 (gO h); exact ⟨g.1, getD_set_true g.2⟩
        ·exact fun h => hS.p4 (gO h)
        ·intro h; have g := hS.p5 (gO h); exact ⟨g.1, getD_set_true g.2.1, getD_set_true g.2.2.1, getD_set_true g.2.2.2⟩
        ·intro h; have g := hS.p6 (gO h); exact ⟨g.1, getD_set_true g.2.1, getD_set_true g.2.2.1, getD_set_true g.2.2.2.1, getD_set_true g.2.2.2.2⟩
        ·intro h; have g := hS.p7 (gO h); exact ⟨g.1, getD_set_true g.2.1, getD_set_true g.2.2.1, getD_set_true g.2.2.2.1, getD_set_true g.2.2.2.2.1, getD_set_true g.2.2.2.2.2⟩
       | 2, _ =>
        obtain rfl := Option.some.inj ho
        refine ZAH rfl rfl ?_
        go_simp
        refine ⟨x37, x38, .pointer (some ⟨w.heap.size, 2, none⟩), x40, x41, x42, x43, x44, x45, x46, rfl, .inr (.inr ⟨by rw [getD_set_ne false (by decide)]; exact hst, by rw [getD_set_ne false (by decide)]; exact hfa, by rw [getD_set_ne false (by decide)]; exact hap, ?_⟩)⟩
        constructor
        ·exact hS.hb
        ·exact fun h => hS.p0 (gO h)
        ·intro h; have g := hS.p1 (gO h); exact ⟨g.1, getD_set_true g.2⟩
        ·exact fun _ => rfl
        ·exact fun h => ZAS (hS.p3 (gO h)).2 hun
        ·exact fun h => hS.p4 (gO h)
        ·exact fun h => ZAS (hS.p5 (gO h)).2.1 hun
        ·exact fun h => ZAS (hS.p6 (gO h)).2.1 hun
        ·exact fun h => ZAS (hS.p7 (gO h)).2.1 hun
       | 3, _ =>
        obtain rfl := Option.some.inj ho
        have q2 := hdep ⟨2, .data⟩ (by simp) rfl
        obtain rfl := hS.p2 q2
        refine ZAH rfl rfl ?_
        go_simp
        refine ⟨x37, x38, .pointer (some ⟨w.heap.size, 2, none⟩), .slice (some ⟨g, o, none⟩) es.length k6, x41, x42, x43, x44, x45, x46, rfl, .inr (.inr ⟨by rw [getD_set_ne false (by decide)]; exact hst, by rw [getD_set_ne false (by decide)]; exact hfa, by rw [getD_set_ne false (by decide)]; exact hap, ?_⟩)⟩
        constructor
        ·exact hS.hb
        ·exact fun h => hS.p0 (gO h)
        ·intro h; have g := hS.p1 (gO h); exact ⟨g.1, getD_set_true g.2⟩
        ·exact fun h => hS.p2 (gO h)
        ·exact fun _ => ⟨rfl, getD_set_true q2⟩
        ·exact fun h => hS.p4 (gO h)
        ·exact fun h => ZAS (hS.p5 (gO h)).2.2.1 hun
        ·exact fun h => ZAS (hS.p6 (gO h)).2.2.1 hun
        ·exact fun h => ZAS (hS.p7 (gO h)).2.2.1 hun
       | 4, _ =>
        obtain rfl := Option.some.inj ho
        refine ZAH rfl rfl ?_
        go_simp
        refine ⟨x37, x38, x39, x40, .int .i64 (k : Int), x42, x43, x44, x45, x46, rfl, .inr (.inr ⟨by rw [getD_set_ne false (by decide)]; exact hst, by rw [getD_set_ne false (by decide)]; exact hfa, by rw [getD_set_ne false (by decide)]; exact hap, ?_⟩)⟩
        constructor
        ·exact hS.hb
        ·exact fun h => hS.p0 (gO h)
        ·intro h; have g := hS.p1 (gO h); exact ⟨g.1, getD_set_true g.2⟩
        ·exact fun h => hS.p2 (gO h)
        ·intro h; have g := hS.p3 (gO h); exact ⟨g.1, getD_set_true g.2⟩
        ·exact fun _ => rfl
        ·exact fun h => ZAS (hS.p5 (gO h)).2.2.2 hun
        ·exact fun h => ZAS (hS.p6 (gO h)).2.2.2.1 hun
        ·exact fun h => ZAS (hS.p7 (gO h)).2.2.2.1 hun
       | 5, _ =>
        obtain rfl := Option.some.inj ho
        have q3 := hdep ⟨3, .data⟩ (by simp) rfl
        have q4 := hdep ⟨4, .data⟩ (by simp) rfl
        obtain ⟨rfl, e3_2⟩ := hS.p3 q3
        obtain rfl := hS.p4 q4
        refine ZAH rfl rfl ?_
        go_simp
        refine ⟨x37, x38, x39, .slice (some ⟨g, o, none⟩) es.length k6, .int .i64 (k : Int), .pointer (some ⟨g, o + k * 6, none⟩), x43, x44, x45, x46, rfl, .inr (.inr ⟨by rw [getD_set_ne false (by decide)]; exact hst, by rw [getD_set_ne false (by decide)]; exact hfa, by rw [getD_set_ne false (by decide)]; exact hap, ?_⟩)⟩
        constructor
        ·exact hS.hb
        ·exact fun h => hS.p0 (gO h)
        ·intro h; have g := hS.p1 (gO h); exact ⟨g.1, getD_set_true g.2⟩
        ·exact fun h => hS.p2 (gO h)
        ·intro h; have g := hS.p3 (gO h); exact ⟨g.1, getD_set_true g.2⟩
        ·exact fun h => hS.p4 (gO h)
        ·exact fun _ => ⟨rfl, getD_set_true e3_2, getD_set_true q3, getD_set_true q4⟩
        ·exact fun h => ZAS (hS.p6 (gO h)).2.2.2.2 hun
        ·exact fun h => ZAS (hS.p7 (gO h)).2.2.2.2.1 hun
       | 6, _ =>
        obtain rfl := Option.some.inj ho
        have q5 := hdep ⟨5, .data⟩ (by simp) rfl
        obtain ⟨rfl, e5_2, e5_3, e5_4⟩ := hS.p5 q5
        refine ZAH rfl rfl ?_
        go_simp
        refine ⟨x37, x38, x39, x40, x41, .pointer (some ⟨g, o + k * 6, none⟩), .agg #[.int .i64 es0, .int .i64 et, .int .i64 er, .int .i64 ek, .string est, .string ev], x44, x45, x46, rfl, .inr (.inr ⟨by rw [getD_set_ne false (by decide)]; exact hst, by rw [getD_set_ne false (by decide)]; exact hfa, by rw [getD_set_ne false (by decide)]; exact hap, ?_⟩)⟩
        constructor
        ·exact hS.hb
        ·exact fun h => hS.p0 (gO h)
        ·intro h; have g := hS.p1 (gO h); exact ⟨g.1, getD_set_true g.2⟩
        ·exact fun h => hS.p2 (gO h)
        ·intro h; have g := hS.p3 (gO h); exact ⟨g.1, getD_set_true g.2⟩
        ·exact fun h => hS.p4 (gO h)
        ·intro h; have g := hS.p5 (gO h); exact ⟨g.1, getD_set_true g.2.1, getD_set_true g.2.2.1, getD_set_true g.2.2.2⟩
        ·exact fun _ => ⟨rfl, getD_set_true e5_2, getD_set_true e5_3, getD_set_true e5_4, getD_set_true q5⟩
        ·exact fun h => ZAS (hS.p7 (gO h)).2.2.2.2.2 hun
       | 7, _ =>
        obtain rfl := Option.some.inj ho
        have q6 := hdep ⟨6, .data⟩ (by simp) rfl
        obtain ⟨rfl, e6_2, e6_3, e6_4, e6_5⟩ := hS.p6 q6
        refine ZAH rfl rfl ?_
        go_simp
        refine ⟨x37, x38, x39, x40, x41, x42, .agg #[.int .i64 es0, .int .i64 et, .int .i64 er, .int .i64 ek, .string est, .string ev], .slice (some ⟨X.heap.size, 0, none⟩) 1 1, x45, x46, rfl, .inr (.inr ⟨by rw [getD_set_ne false (by decide)]; exact hst, by rw [getD_set_ne false (by decide)]; exact hfa, by rw [getD_set_ne false (by decide)]; exact hap, ?_⟩)⟩
        constructor
        ·exact hS.hb.alloc hS.hb.size _
        ·exact fun h => hS.p0 (gO h)
        ·intro h; have g := hS.p1 (gO h); exact ⟨g.1, getD_set_true g.2⟩
        ·exact fun h => hS.p2 (gO h)
        ·intro h; have g := hS.p3 (gO h); exact ⟨g.1, getD_set_true g.2⟩
        ·exact fun h => hS.p4 (gO h)
        ·intro h; have g := hS.p5 (gO h); exact ⟨g.1, getD_set_true g.2.1, getD_set_true g.2.2.1, getD_set_true g.2.2.2⟩
        ·intro h; have g := hS.p6 (gO h); exact ⟨g.1, getD_set_true g.2.1, getD_set_true g.2.2.1, getD_set_true g.2.2.2.1, getD_set_true g.2.2.2.2⟩
        ·exact fun _ => ⟨ev_made X es0 et er ek est ev, getD_set_true e6_2, getD_set_true e6_3, getD_set_true e6_4, getD_set_true e6_5, getD_set_true q6⟩
       | 8, _ =>
        obtain rfl := Option.some.inj ho
        have q1 := hdep ⟨1, .data⟩ (by simp) rfl
        have q7 := hdep ⟨7, .data⟩ (by simp) rfl
        obtain ⟨rfl, e1_0⟩ := hS.p1 q1
        obtain ⟨hX, e7_2, e7_3, e7_4, e7_5, e7_6⟩ := hS.p7 q7
        refine ZAH rfl rfl ?_
        have hO0 := ZAE HOk.out hS.hb
        refine ZAa _ _ 34 rfl (w.heap.size + 1 + 1) 57 _ _ 6 64 Tryz.underlying34 hm hm0 hm1 hm2 rfl (by decide) _ ((clE es t k).length) _ rfl hO0 1 _ _ rfl hX (by have := hEk.out; unfold maxLen; omega) (by have := hEk.out; omega) (Nat.le_trans hBW hS.hb.size) ?_
        intro v' X' ho' hg
        refine ⟨x37, .slice b6 (clE es t k).length c6, x39, x40, x41, x42, x43, x44, v', x46, rfl, .inr (.inl ⟨by rw [getD_set_ne false (by decide)]; exact hst, ZAX hun, fun j hj => ?_, ?_, ho', fun h => absurd (gO h) (by rw [hfa]; decide)⟩)⟩
        ·match j, hj with
         | 0, _ => exact getD_set_true e1_0
         | 1, _ => exact getD_set_true q1
         | 2, _ => exact getD_set_true e7_2
         | 3, _ => exact getD_set_true e7_3
         | 4, _ => exact getD_set_true e7_4
         | 5, _ => exact getD_set_true e7_5
         | 6, _ => exact getD_set_true e7_6
         | 7, _ => exact getD_set_true q7
        ·refine (Chg.of_below hS.hb).trans ?_
         exact ⟨hg.os, hg.tape, hg.output, hg.size, fun k hk hp => hg.block k hk (fun e => hp e.symm)⟩
       | 9, _ =>
        obtain rfl := Option.some.inj ho
        exact absurd (hdep ⟨8, .phase⟩ (by simp) rfl) (by rw [hap]; decide)
       | 10, _ =>
        obtain rfl := Option.some.inj ho
        exact absurd (hdep ⟨8, .data⟩ (by simp) rfl) (by rw [hap]; decide)
     case fin =>
      rintro listed a X ⟨x37, x38, x39, x40, x41, x42, x43, x44, x45, x46, rfl, hR⟩ hall
      have hst : listed.getD 10 false = true := hall 10 (by decide)
      rcases hR with ⟨_, _, b9, c9, hT9, hO9, hC9⟩ | ⟨h, _⟩ | ⟨h, _⟩
      rotate_left
      ·rw [hst] at h; cases h
      ·rw [hst] at h; cases h
      replace hT9 := hid hT9
      replace hO9 := hid hO9
      replace hC9 := hid hC9
      go_wp2_with fail
      refine ⟨⟨k + 1, by omega, by simp, b9, c9, ⟨?_, ?_, ?_⟩⟩, by simp [intOf]; omega⟩
      ·rw [HYs.out, List.length_append]; exact hT9.out
      ·rw [HYs.out]
       have hD9 : DefOwn X (w.heap.size + 1 + 1) (.slice p1 ss.length q1) (.slice p2 fs.length q2) ss fs := ⟨ZAJ (show wr.drew.ownsRow _ _ _ _ _ _ from HI.out.o.d.o1) hC9.out (fun g9 h9 h8 => h8.elim (fun h8 => ZBX (show wr.drew.ownsRow _ _ _ _ _ _ from HI.out.o.d.o1) HOk.out (by decide) g9 h9 h8) (fun h8 => ZAL (show wr.drew.ownsRow _ _ _ _ _ _ from HI.out.o.d.o1) HTk.out (by decide) g9 h9 h8)), ZAJ (show wr.drew.ownsRow _ _ _ _ _ _ from HI.out.o.d.o2) hC9.out (fun g9 h9 h8 => h8.elim (fun h8 => ZBX (show wr.drew.ownsRow _ _ _ _ _ _ from HI.out.o.d.o2) HOk.out (by decide) g9 h9 h8) (fun h8 => ZAL (show wr.drew.ownsRow _ _ _ _ _ _ from HI.out.o.d.o2) HTk.out (by decide) g9 h9 h8))⟩
       refine ⟨hD9, ?_⟩
       have h := hO9.out
       rw [HL.out] at h
       rw [List.length_append, List.flatMap_append]
       exact h
      ·exact HI.out.b.drew.trans (hC9.out.below hszr (fun j h8 => by
        rcases h8 with h8 | h8
        ·exact (HOk.out.lt j h8).1
        ·omega))
  ·obtain rfl : k = es.length := by omega
   have HO0 := hid HI.out.o
   have HTk := hid HI.out.ht
   have HOk := hid HI.out.o.o6
   have HEk := hid (HE.out.stay hBr.out nL)
   have hKl : (clE es t es.length).length ≤ 200 := Nat.le_trans (List.length_filter_le _ _) (Nat.le_trans (List.length_take_le _ _) hs2)
   clear HI
   obtain ⟨K, hK⟩ : ∃ K, K = clE es t es.length := ⟨_, rfl⟩
   rw [← hK] at HO0 HTk HOk hKl
   have HKk := hid hK
   clear hK
   go_upto_region 10 with fail
   refine ZAR mixed (Cl10R (fun x47 x48 x49 x50 x51 x52 x53 x54 x55 x56 x57 => { tmps := #[svV a1 a2 a6 k1 k2 k6 ss fs es nx, .int .i64 t, .pointer (some ⟨w.heap.size, 0, none⟩), undef, .pointer (some ⟨w.heap.size + 1, 0, none⟩), .pointer (some ⟨b5, 0, none⟩), .int .i64 (es.length : Int), .agg #[.slice a1 ss.length k1, .slice a2 fs.length k2, .slice a6 es.length k6, .int .i64 nx], .bool true, .bool false, .bool false, .int .i64 t, .bool true, .bool false, .bool false, undef, .agg #[.slice a1 ss.length k1, .slice a2 fs.length k2, .slice a6 es.length k6, .int .i64 nx], svV p1 p2 p6 q1 q2 q6 ss fs es nx, .pointer (some ⟨b5, 2, none⟩), .int .i64 (es.length : Int), .pointer (some ⟨w.heap.size, 2, none⟩), .slice a6 es.length k6, .int .i64 (es.length : Int), .bool false, u24, u25, u26, u27, u28, u29, u30, u31, u32, u33, u34, u35, u36, u37, u38, u39, u40, u41, u42, u43, u44, u45, u46, x47, x48, x49, x50, x51, x52, x53, x54, x55, x56, x57], defers := [] }) (Cl10F w p1 p2 b6 q1 q2 c6 ss fs es K nx) w.heap.size b5 p1 p2 a6 b6 q1 q2 k6 c6 ss fs es K nx wr) ?ac ?start ?step ?fin
   case ac => exact ZCG (by kernel_rfl)
   case start =>
    refine ⟨undef, undef, undef, undef, undef, undef, undef, undef, undef, undef, undef, rfl, .inr ⟨rfl, ?_⟩⟩
    constructor
    ·exact (Below.refl _ wr).drew
    all_goals (intro h; simp at h)
   case step =>
    rintro i listed a X ⟨x47, x48, x49, x50, x51, x52, x53, x54, x55, x56, x57, rfl, hR⟩ hun ⟨op9, ho, hdep⟩
    have hlt : i < 12 := (Array.getElem?_eq_some_iff.1 ho).1
    rcases hR with ⟨hst, hall, _⟩ | ⟨hst, hS⟩
    ·by_cases e9 : i = 11
     ·subst e9; exact ZAS hst hun
     ·exact ZAS (hall i (by omega)) hun
    ·have s2 : X.cell? ⟨w.heap.size, 2, none⟩ = some (.slice a6 es.length k6) := (hS.hb.cell (p := ⟨w.heap.size, 2, none⟩) (ZAA HA0.out)).trans (ce HA0.out rfl)
     have v0 : X.cell? ⟨b5, 0, none⟩ = some (.slice p1 ss.length q1) := (hS.hb.cell (p := ⟨b5, 0, none⟩) (ZAA HTk.out)).trans (ce HTk.out rfl)
     have v1 : X.cell? ⟨b5, 1, none⟩ = some (.slice p2 fs.length q2) := (hS.hb.cell (p := ⟨b5, 1, none⟩) (ZAA HTk.out)).trans (ce HTk.out rfl)
     have v2 : X.cell? ⟨b5, 2, none⟩ = some (.slice b6 K.length c6) := (hS.hb.cell (p := ⟨b5, 2, none⟩) (ZAA HTk.out)).trans (ce HTk.out rfl)
     have v3 : X.cell? ⟨b5, 3, none⟩ = some (.int .i64 nx) := (hS.hb.cell (p := ⟨b5, 3, none⟩) (ZAA HTk.out)).trans (ce HTk.out rfl)
     match i, hlt with
     | 0, _ =>
      obtain rfl := Option.some.inj ho
      refine ZAH rfl rfl ?_
      go_simp
      refine ⟨.agg #[.slice p1 ss.length q1, .slice p2 fs.length q2, .slice b6 K.length c6, .int .i64 nx], x48, x49, x50, x51, x52, x53, x54, x55, x56, x57, rfl, .inr ⟨by rw [getD_set_ne false (by decide)]; exact hst, ?_⟩⟩
      exact ⟨hS.hb, fun _ => rfl, fun h => hS.w1 (gO h), fun h => hS.w2 (gO h), fun h => hS.w3 (gO h), fun h => hS.w4 (gO h), fun h => hS.w5 (gO h), fun h => hS.w6 (gO h), fun h => hS.w7 (gO h), fun h => hS.w8 (gO h), fun h => hS.w9 (gO h), fun h => hS.w10 (gO h)⟩
     | 1, _ =>
      obtain rfl := Option.some.inj ho
      refine ZAH rfl rfl ?_
      go_simp
      refine ⟨x47, .pointer (some ⟨w.heap.size, 2, none⟩), x49, x50, x51, x52, x53, x54, x55, x56, x57, rfl, .inr ⟨by rw [getD_set_ne false (by decide)]; exact hst, ?_⟩⟩
      exact ⟨hS.hb, fun h => hS.w0 (gO h), fun _ => rfl, fun h => hS.w2 (gO h), fun h => hS.w3 (gO h), fun h => hS.w4 (gO h), fun h => hS.w5 (gO h), fun h => hS.w6 (gO h), fun h => hS.w7 (gO h), fun h => hS.w8 (gO h), fun h => hS.w9 (gO h), fun h => hS.w10 (gO h)⟩
     | 2, _ =>
      obtain rfl := Option.some.inj ho
      have q1 := hdep ⟨1, .data⟩ (by simp) rfl
      obtain rfl := hS.w1 q1
      refine ZAH rfl rfl ?_
      go_simp
      refine ⟨x47, .pointer (some ⟨w.heap.size, 2, none⟩), .slice a6 es.length k6, x50, x51, x52, x53, x54, x55, x56, x57, rfl, .inr ⟨by rw [getD_set_ne false (by decide)]; exact hst, ?_⟩⟩
      exact ⟨hS.hb, fun h => hS.w0 (gO h), fun h => hS.w1 (gO h), fun _ => rfl, fun h => hS.w3 (gO h), fun h => hS.w4 (gO h), fun h => hS.w5 (gO h), fun h => hS.w6 (gO h), fun h => hS.w7 (gO h), fun h => hS.w8 (gO h), fun h => hS.w9 (gO h), fun h => hS.w10 (gO h)⟩
     | 3, _ =>
      obtain rfl := Option.some.inj ho
      have q2 := hdep ⟨2, .data⟩ (by simp) rfl
      obtain rfl := hS.w2 q2
      refine ZAH rfl rfl ?_
      go_simp
      refine (ZBh a6 k6 es X (HEk.out.stay hS.hb nL) (by omega)).mono ?_
      rintro e9 X' ⟨v, rs, rfl, hr, hv, hq⟩
      obtain ⟨a9, c9, rfl⟩ := ZAD hv
      clear hv
      refine ⟨x47, x48, .slice a6 es.length k6, .slice a9 rs.length c9, x51, x52, x53, x54, x55, x56, x57, rfl, .inr ⟨by rw [getD_set_ne false (by decide)]; exact hst, ?_⟩⟩
      exact ⟨hS.hb.trans (hq.mono hS.hb.size), fun h => hS.w0 (gO h), fun h => hS.w1 (gO h), fun h => hS.w2 (gO h), fun _ => ⟨a9, c9, rs, hr, rfl⟩, fun h => hS.w4 (gO h), fun h => hS.w5 (gO h), fun h => hS.w6 (gO h), fun h => hS.w7 (gO h), fun h => hS.w8 (gO h), fun h => hS.w9 (gO h), fun h => hS.w10 (gO h)⟩
     | 4, _ =>
      obtain rfl := Option.some.inj ho
      have q3 := hdep ⟨3, .data⟩ (by simp) rfl
      obtain ⟨a9, c9, rs, hr, rfl⟩ := hS.w3 q3
      have hlr := hr.len
      refine ZAH rfl rfl ?_
      go_simp
      refine ⟨x47, x48, x49, .slice a9 rs.length c9, .int .i64 (rs.length : Int), x52, x53, x54, x55, x56, x57, rfl, .inr ⟨by rw [getD_set_ne false (by decide)]; exact hst, ?_⟩⟩
      exact ⟨hS.hb, fun h => hS.w0 (gO h), fun h => hS.w1 (gO h), fun h => hS.w2 (gO h), fun h => hS.w3 (gO h), fun _ => ⟨rs, hr, rfl⟩, fun h => hS.w5 (gO h), fun h => hS.w6 (gO h), fun h => hS.w7 (gO h), fun h => hS.w8 (gO h), fun h => hS.w9 (gO h), fun h => hS.w10 (gO h)⟩
     | 5, _ =>
      obtain rfl := Option.some.inj ho
      refine ZAH rfl rfl ?_
      go_simp
      refine ⟨x47, x48, x49, x50, x51, .pointer (some ⟨b5, 2, none⟩), x53, x54, x55, x56, x57, rfl, .inr ⟨by rw [getD_set_ne false (by decide)]; exact hst, ?_⟩⟩
      exact ⟨hS.hb, fun h => hS.w0 (gO h), fun h => hS.w1 (gO h), fun h => hS.w2 (gO h), fun h => hS.w3 (gO h), fun h => hS.w4 (gO h), fun _ => rfl, fun h => hS.w6 (gO h), fun h => hS.w7 (gO h), fun h => hS.w8 (gO h), fun h => hS.w9 (gO h), fun h => hS.w10 (gO h)⟩
     | 6, _ =>
      obtain rfl := Option.some.inj ho
      have q5 := hdep ⟨5, .data⟩ (by simp) rfl
      obtain rfl := hS.w5 q5
      refine ZAH rfl rfl ?_
      go_simp
      refine ⟨x47, x48, x49, x50, x51, .pointer (some ⟨b5, 2, none⟩), .slice b6 K.length c6, x54, x55, x56, x57, rfl, .inr ⟨by rw [getD_set_ne false (by decide)]; exact hst, ?_⟩⟩
      exact ⟨hS.hb, fun h => hS.w0 (gO h), fun h => hS.w1 (gO h), fun h => hS.w2 (gO h), fun h => hS.w3 (gO h), fun h => hS.w4 (gO h), fun h => hS.w5 (gO h), fun _ => rfl, fun h => hS.w7 (gO h), fun h => hS.w8 (gO h), fun h => hS.w9 (gO h), fun h => hS.w10 (gO h)⟩
     | 7, _ =>
      obtain rfl := Option.some.inj ho
      have q6 := hdep ⟨6, .data⟩ (by simp) rfl
      obtain rfl := hS.w6 q6
      refine ZAH rfl rfl ?_
      go_simp
      refine (ZBh b6 c6 K X ((ZAi HOk.out).stay hS.hb nL) (by omega)).mono ?_
      rintro e9 X' ⟨v, rs, rfl, hr, hv, hq⟩
      obtain ⟨a9, c9, rfl⟩ := ZAD hv
      clear hv
      refine ⟨x47, x48, x49, x50, x51, x52, .slice b6 K.length c6, .slice a9 rs.length c9, x55, x56, x57, rfl, .inr ⟨by rw [getD_set_ne false (by decide)]; exact hst, ?_⟩⟩
      exact ⟨hS.hb.trans (hq.mono hS.hb.size), fun h => hS.w0 (gO h), fun h => hS.w1 (gO h), fun h => hS.w2 (gO h), fun h => hS.w3 (gO h), fun h => hS.w4 (gO h), fun h => hS.w5 (gO h), fun h => hS.w6 (gO h), fun _ => ⟨a9, c9, rs, hr, rfl⟩, fun h => hS.w8 (gO h), fun h => hS.w9 (gO h), fun h => hS.w10 (gO h)⟩
     | 8, _ =>
      obtain rfl := Option.some.inj ho
      have q7 := hdep ⟨7, .data⟩ (by simp) rfl
      obtain ⟨a9, c9, rs, hr, rfl⟩ := hS.w7 q7
      have hlr := hr.len
      refine ZAH rfl rfl ?_
      go_simp
      refine ⟨x47, x48, x49, x50, x51, x52, x53, .slice a9 rs.length c9, .int .i64 (rs.length : Int), x56, x57, rfl, .inr ⟨by rw [getD_set_ne false (by decide)]; exact hst, ?_⟩⟩
      exact ⟨hS.hb, fun h => hS.w0 (gO h), fun h => hS.w1 (gO h), fun h => hS.w2 (gO h), fun h => hS.w3 (gO h), fun h => hS.w4 (gO h), fun h => hS.w5 (gO h), fun h => hS.w6 (gO h), fun h => hS.w7 (gO h), fun _ => ⟨rs, hr, rfl⟩, fun h => hS.w9 (gO h), fun h => hS.w10 (gO h)⟩
     | 9, _ =>
      obtain rfl := Option.some.inj ho
      have q4 := hdep ⟨4, .data⟩ (by simp) rfl
      have q8 := hdep ⟨8, .data⟩ (by simp) rfl
      obtain ⟨rs, hr, rfl⟩ := hS.w4 q4
      obtain ⟨rs', hr', rfl⟩ := hS.w8 q8
      have hlr := hr.len
      have hlr' := hr'.len
      have hw : IntKind.i64.wrap ((rs.length : Int) - (rs'.length : Int)) = (rs.length : Int) - (rs'.length : Int) := by rw [IntKind.wrap_i64]; omega
      refine ZAH rfl rfl ?_
      go_simp
      refine ⟨x47, x48, x49, x50, .int .i64 (rs.length : Int), x52, x53, x54, .int .i64 (rs'.length : Int), .int .i64 ((rs.length : Int) - (rs'.length : Int)), x57, rfl, .inr ⟨by rw [getD_set_ne false (by decide)]; exact hst, ?_⟩⟩
      exact ⟨hS.hb, fun h => hS.w0 (gO h), fun h => hS.w1 (gO h), fun h => hS.w2 (gO h), fun h => hS.w3 (gO h), fun h => hS.w4 (gO h), fun h => hS.w5 (gO h), fun h => hS.w6 (gO h), fun h => hS.w7 (gO h), fun h => hS.w8 (gO h), fun _ => ⟨rs, rs', hr, hr', rfl⟩, fun h => hS.w10 (gO h)⟩
     | 10, _ =>
      obtain rfl := Option.some.inj ho
      have q0 := hdep ⟨0, .data⟩ (by simp) rfl
      obtain rfl := hS.w0 q0
      have q9 := hdep ⟨9, .data⟩ (by simp) rfl
      obtain ⟨rs, rs', hr, hr', rfl⟩ := hS.w9 q9
      refine ZAH rfl rfl ?_
      go_simp
      refine ⟨.agg #[.slice p1 ss.length q1, .slice p2 fs.length q2, .slice b6 K.length c6, .int .i64 nx], x48, x49, x50, x51, x52, x53, x54, x55, _, _, rfl, .inr ⟨by rw [getD_set_ne false (by decide)]; exact hst, ?_⟩⟩
      exact ⟨hS.hb, fun h => hS.w0 (gO h), fun h => hS.w1 (gO h), fun h => hS.w2 (gO h), fun h => hS.w3 (gO h), fun h => hS.w4 (gO h), fun h => hS.w5 (gO h), fun h => hS.w6 (gO h), fun h => hS.w7 (gO h), fun h => hS.w8 (gO h), fun h => hS.w9 (gO h), fun _ => ⟨rs, rs', hr, hr', rfl⟩⟩
     | 11, _ =>
      obtain rfl := Option.some.inj ho
      have q10 := hdep ⟨10, .data⟩ (by simp) rfl
      obtain ⟨rs, rs', hr, hr', rfl⟩ := hS.w10 q10
      have HRx := hid ((hS.hb.block _ (ZAA HR0.out)).trans HR0.out)
      have r0 : X.cell? ⟨w.heap.size + 1, 0, none⟩ = some (.slice none 0 0) := ce HRx.out rfl
      have r1 : X.cell? ⟨w.heap.size + 1, 1, none⟩ = some (.slice none 0 0) := ce HRx.out rfl
      have r2 : X.cell? ⟨w.heap.size + 1, 2, none⟩ = some (.slice none 0 0) := ce HRx.out rfl
      have r3 : X.cell? ⟨w.heap.size + 1, 3, none⟩ = some (.int .i64 0) := ce HRx.out rfl
      have r4 : X.cell? ⟨w.heap.size + 1, 4, none⟩ = some (.int .i64 0) := ce HRx.out rfl
      have r5 : X.cell? ⟨w.heap.size + 1, 5, none⟩ = some (.int .i64 0) := ce HRx.out rfl
      have rf := Lib.frozen_of_heap HRx.out
      have HQ := hid (ZHl (w := w) nx ((rs.length : Int) - (rs'.length : Int)) 0 (HO0.out.stay hS.hb) (hBr.out.trans (hS.hb.mono hBr.out.size)) (Nat.le_trans hszr hS.hb.size) HRx.out)
      refine ZAH rfl rfl ?_
      go_simp
      refine ⟨x47, x48, x49, x50, x51, x52, x53, x54, x55, x56, _, rfl, .inl ⟨ZAX hun, fun j hj => ?_, rs, rs', hr, hr', HQ.out⟩⟩
      rw [getD_set_ne false (by omega)]
      match j, hj with
      | 0, _ => exact hdep ⟨0, .phase⟩ (by simp) rfl
      | 1, _ => exact hdep ⟨1, .phase⟩ (by simp) rfl
      | 2, _ => exact hdep ⟨2, .phase⟩ (by simp) rfl
      | 3, _ => exact hdep ⟨3, .phase⟩ (by simp) rfl
      | 4, _ => exact hdep ⟨4, .phase⟩ (by simp) rfl
      | 5, _ => exact hdep ⟨5, .phase⟩ (by simp) rfl
      | 6, _ => exact hdep ⟨6, .phase⟩ (by simp) rfl
      | 7, _ => exact hdep ⟨7, .phase⟩ (by simp) rfl
      | 8, _ => exact hdep ⟨8, .phase⟩ (by simp) rfl
      | 9, _ => exact hdep ⟨9, .phase⟩ (by simp) rfl
      | 10, _ => exact hdep ⟨10, .phase⟩ (by simp) rfl
      | n + 11, h => exact absurd h (by omega)
   case fin =>
    rintro listed a X ⟨x47, x48, x49, x50, x51, x52, x53, x54, x55, x56, x57, rfl, hR⟩ hall
    have hst : listed.getD 11 false = true := hall 11 (by decide)
    rcases hR with ⟨_, _, rs, rs', hr, hr', hQ1, hQ2, hQ3⟩ | ⟨h, _⟩
    rotate_left
    ·rw [hst] at h; cases h
    have z0 := Lib.cell_of_heap hQ1 (j := 0)
    have z1 := Lib.cell_of_heap hQ1 (j := 1)
    have z2 := Lib.cell_of_heap hQ1 (j := 2)
    have z3 := Lib.cell_of_heap hQ1 (j := 3)
    have z4 := Lib.cell_of_heap hQ1 (j := 4)
    have z5 := Lib.cell_of_heap hQ1 (j := 5)
    simp at z0 z1 z2 z3 z4 z5
    go_wp2_with fail
    exact bodyPost_ret (v := .agg #[.slice p1 ss.length q1, .slice p2 fs.length q2, .slice b6 K.length c6, .int .i64 nx, .int .i64 ((rs.length : Int) - (rs'.length : Int)), .int .i64 0]) (by simp [results, Tryz.results18, go_sem, z0, z1, z2, z3, z4, z5]) rfl (by rw [← HKk.out]; exact ⟨rs, rs', p1, p2, b6, q1, q2, c6, hr, hr', rfl, hQ2, hQ3⟩)
end Go.Proofs.YtookchpdbilbcaaGreatDoor
