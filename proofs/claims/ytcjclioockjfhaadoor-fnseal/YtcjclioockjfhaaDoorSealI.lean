/-
  Seals: what spec.l01Four, impl.sumText and impl.Seal answer, for every text: contracts over the seat's program.
-/
import Derived.Test.YtcjclioockjfhaaDoorCrc
import Derived.Test.YtcjclioockjfhaaDoorJoin
namespace Go.Proofs.YtcjclioockjfhaaDoor.Seal
open Go.RowKit Crc Join

theorem conv_cells {P : Program} {w : World} {g n cap : Nat} {e : TypeId} {xs : List Int} (src dst : TypeId) (hs : P.underlying src = some (.slice e)) (he : P.underlying e = some (.int .u8)) (hd : P.underlying dst = some .string)
    (hn : xs.length = n) (h : w.heap[g]? = some (.cells (xs.map (Value.int .u8)).toArray e (0, 0))) : (convert src dst (.slice (some ⟨g, 0, none⟩) n cap)).run P w = .ok (.string (strOfNums xs)) w := by
  refine run_convert_bytes_arg w src e hs he g 0 n cap _ hn ?_ dst hd
  intro i hi
  have hi' : i < xs.length := by omega
  simp [World.cell?, h, hi', List.getD]
def four (n : Int) : List Int := [n % 256, n / 256 % 256, n / 65536 % 256, n / 16777216 % 256]

set_option maxRecDepth 100000 in
theorem four_any (n : Int) (w : World) :
    Calls Tryd.prog 36 #[.int .i64 n] w fun e w' => e = .returned (.string (strOfNums (four n))) ∧ Below w.heap.size w w' := by
  have hcv := conv_cells (P := Tryd.prog) (w := w.alloc (.cells #[.int .u8 (n % 256), .int .u8 (n / 256 % 256), .int .u8 (n / 65536 % 256), .int .u8 (n / 16777216 % 256)] 5)) (g := w.heap.size) (n := 4) (cap := 4) (xs := four n) 22 9 Tryd.underlying22 Tryd.underlying5 Tryd.underlying9 rfl (heap_alloc_new w _)
  go_enter Tryd.func36, Tryd.ntmps36
  go_wp2
  go_ret
  exact ⟨rfl, (Below.refl _ _).alloc (Nat.le_refl _) _⟩

set_option maxRecDepth 100000 in
theorem sumText_any (n : Int) (w : World) :
    Calls Tryd.prog 35 #[.int .i64 n] w fun e w' => e = .returned (.string (strOfNums (four n))) ∧ Below w.heap.size w w' := by
  have hcv := conv_cells (P := Tryd.prog) (w := w.alloc (.cells #[.int .u8 (n % 256), .int .u8 (n / 256 % 256), .int .u8 (n / 65536 % 256), .int .u8 (n / 16777216 % 256)] 5)) (g := w.heap.size) (n := 4) (cap := 4) (xs := four n) 22 9 Tryd.underlying22 Tryd.underlying5 Tryd.underlying9 rfl (heap_alloc_new w _)
  have hmk : ∀ w, (Instr.makeSlice 22 (.int .i64 4) (.int .i64 4)).run Tryd.prog w = .ok (.slice (some ⟨w.heap.size, 0, none⟩) 4 4) (w.alloc (.cells #[.int .u8 0, .int .u8 0, .int .u8 0, .int .u8 0] 5)) := fun _ => by kernel_rfl
  go_enter Tryd.func35, Tryd.ntmps35
  go_wp2
  refine wp_loop_rounds 5 ?_
  rw [rounds_succ]
  go_wp2
  rw [rounds_succ]
  go_wp2
  rw [rounds_succ]
  go_wp2
  rw [rounds_succ]
  go_wp2
  rw [rounds_succ]
  go_wp2
  go_ret
  exact ⟨rfl, (Below.refl _ _).alloc (Nat.le_refl _) _⟩

def sealS (s : ByteArray) : ByteArray := s ++ strOfNums (four (crcL 0 s.data.toList))
theorem fourS_size (n : Int) : (strOfNums (four n)).size = 4 := by rw [strOfNums_size]; rfl
theorem sealS_size (s : ByteArray) : (sealS s).size = s.size + 4 := by unfold sealS; rw [ByteArray.size_append, fourS_size]

theorem implSeal_any (s : ByteArray) (w : World) (h : (s.size : Int) ≤ 7996) :
    Calls Tryd.prog 14 #[.string s] w fun e w' => e = .returned (.string (sealS s)) ∧ Below w.heap.size w w' := by
  have c1 := fun w => implCrc_any s w
  rw [show crcM 0 s = crcL 0 s.data.toList from if_pos ⟨by omega, by decide, by decide⟩] at c1
  have hz := fourS_size (crcL 0 s.data.toList)
  have c2 := fun w => sumText_any (crcL 0 s.data.toList) w
  unfold sealS
  generalize strOfNums (four (crcL 0 s.data.toList)) = S at *
  generalize crcL 0 s.data.toList = C at *
  have c3 := fun w => joined_any s S w (by omega) (by omega)
  clear hz
  go_enter Tryd.func14, Tryd.ntmps14
  go_wp2_with (first | (go_at_call 21; refine (c1 _).mono ?_; rintro e w1 ⟨rfl, rfl⟩) | (go_at_call 35; refine (c2 _).mono ?_; rintro e w2 ⟨rfl, hb⟩) | (go_at_call 32; refine (c3 _).mono ?_; rintro e w3 ⟨rfl, hb2⟩))
  go_ret
  exact ⟨rfl, hb.trans (hb2.mono hb.size)⟩
theorem implSeal_no (s : ByteArray) (w : World) (h : ¬ (s.size : Int) ≤ 7996) :
    Calls Tryd.prog 14 #[.string s] w fun e w' => e = .returned (.string ⟨#[]⟩) ∧ Below w.heap.size w w' := by
  go_enter Tryd.func14, Tryd.ntmps14
  go_wp2
  go_ret
  exact ⟨rfl, Below.refl _ _⟩
end Go.Proofs.YtcjclioockjfhaaDoor.Seal
