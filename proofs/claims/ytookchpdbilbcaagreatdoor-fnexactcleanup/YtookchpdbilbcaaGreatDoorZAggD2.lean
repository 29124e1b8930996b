/-
  Texts put together: AggD, Nm.
-/
import Derived.Test.YtookchpdbilbcaaGreatDoorZAgg6
import Derived.DataReads
import Derived.BigQuiet
import Derived.Deep.QuietTactic
set_option maxRecDepth 100000
set_option maxHeartbeats 400000
/-
  Rows of texts and of pairs of texts, Defs and States that came in as data: what they hold. Of no function: small laws of reading.
-/
namespace Go.Proofs.YtookchpdbilbcaaGreatDoor
open Go.ChangeShapes Go.WideShapes Go.RowKit Go.Deep Go.WideElems
theorem list2 {α : Type} {l : List α} (h : l.length = 2) : ∃ a b, l = [a, b] := by
  match l, h with
  | [a, b], _ => exact ⟨a, b, rfl⟩
section
variable {H : Type} {enc : TypeId × Value → H} {P : Program} {w : World}
/-- A slice of strings, read. -/
theorem ZGx {t e : TypeId} {fuel : Nat} {cs : List Value} {x : DataW H × List MemPlace} (hsl : P.underlying t = some (.slice e)) (he : P.underlying e = some .string) (hC : P.cellsOf e = 1)
    (h : DataW.trod enc P w 0 (fun _ => true) true fuel t cs = some x) : ∃ (a : Option Addr) (c : Nat) (ss : List ByteArray), cs = [.slice a ss.length c] ∧ StrSl w (.slice a ss.length c) ss ∧ FitS ss ∧ ss.length ≤ maxLen := by
  rcases open_slice hsl h with ⟨hcs, _⟩ | ⟨a, len, cap, m, n, D', Pl, hcs, _, hl, hm, hmm, _, hel⟩
  · exact ⟨none, 0, [], hcs, .inl ⟨none, 0, rfl, rfl⟩, fun i hi => absurd hi (by simp), Nat.zero_le _⟩
  · simp only [if_true] at hmm
    subst hmm
    have hex : ∀ i, i < len → ∃ s : ByteArray, w.cells? 0 (a.add i) 1 = some [.string s] ∧ s.size ≤ maxLen := by
      intro i hi
      obtain ⟨cs', h1, h2⟩ := hel i (by omega)
      rw [hC, Nat.mul_one] at h1
      obtain ⟨q, e', _, hq⟩ := DataW.trod_string he h2
      exact ⟨q, by rw [h1, e'], hq⟩
    obtain ⟨f, hfx⟩ : ∃ f : Nat → ByteArray, ∀ i, i < len → w.cells? 0 (a.add i) 1 = some [.string (f i)] ∧ (f i).size ≤ maxLen := by
      refine ⟨fun i => if hi : i < len then Classical.choose (hex i hi) else ByteArray.empty, fun i hi => ?_⟩
      simp only [dif_pos hi]
      exact Classical.choose_spec (hex i hi)
    refine ⟨some a, m, (List.range len).map f, by simpa using hcs, ?_, ?_, by simp; omega⟩
    · by_cases h0 : len = 0
      · subst h0
        exact .inl ⟨some a, m, by simp, rfl⟩
      · have hc0 := (hfx 0 (by omega)).1
        have hspot : a.spot = none := by
          obtain ⟨_, _, hc⟩ := World.cells?_some hc0
          have := World.cell?_spot (hc 0 (by decide))
          simpa [Addr.add] using this
        have hblk : a.block < w.heap.size := by
          have := World.cells?_block hc0 (by decide)
          simpa [Addr.add] using this
        obtain ⟨b, o, s⟩ := a
        simp at hspot hblk
        subst hspot
        refine .inr ⟨b, o, m, rfl, by simp; omega, hblk, fun i hi => ?_⟩
        have hi' : i < len := by simpa using hi
        obtain ⟨_, _, hc⟩ := World.cells?_some (hfx i hi').1
        have := hc 0 (by decide)
        rw [Addr.add_lit, Addr.add_lit] at this
        simpa using this
    · intro i hi
      have hi' : i < len := by simpa using hi
      simpa using (hfx i hi').2
/-- A struct of two strings, read. -/
theorem ZJP {t : TypeId} {f0 f1 : Field} {fuel : Nat} {cs : List Value} {x : DataW H × List MemPlace} (ht : P.underlying t = some (.struct #[f0, f1])) (hone : oneCellFields P #[f0, f1] = true) (hC : P.cellsOf t = 2)
    (u0 : P.underlying f0.type = some .string) (u1 : P.underlying f1.type = some .string)
    (h : DataW.trod enc P w 0 (fun _ => true) true fuel t cs = some x) : ∃ p : Pr, cs = p.cells ∧ p.fst.size ≤ maxLen ∧ p.snd.size ≤ maxLen := by
  obtain ⟨xs, n, _, _, hl, hlen, hf⟩ := DataW.trod_struct ht h
  obtain ⟨c0, c1, rfl⟩ := list2 (hl.trans hC)
  obtain ⟨x0, x1, rfl⟩ := list2 (show xs.length = 2 from hlen)
  obtain ⟨s, rfl, hs⟩ := ZBu (hone_of hone 0 f0 rfl) rfl u0 (hf 0 f0 rfl) rfl
  obtain ⟨v, rfl, hv⟩ := ZBu (hone_of hone 1 f1 rfl) rfl u1 (hf 1 f1 rfl) rfl
  exact ⟨⟨s, v⟩, rfl, hs, hv⟩
theorem ZD8 {a : Addr} {i : Nat} {p : Pr} (h : w.cells? 0 (a.add (i * 2)) 2 = some p.cells) (hs : a.spot = none) : PrAt w a.block (a.off + i * 2) p := by
  obtain ⟨b, o, s⟩ := a
  simp at hs
  subst hs
  obtain ⟨_, _, hc⟩ := World.cells?_some h
  rw [Addr.add_lit] at hc
  have key : ∀ j, j < 2 → w.cell? ⟨b, o + i * 2 + j, none⟩ = p.cells[j]? := fun j hj => by
    have := hc j hj
    rwa [Addr.add_lit] at this
  exact ⟨key 0 (by decide), key 1 (by decide)⟩
/-- A slice of structs of two strings, read. -/
theorem ZHa {t e : TypeId} {f0 f1 : Field} {fuel : Nat} {cs : List Value} {x : DataW H × List MemPlace} (hsl : P.underlying t = some (.slice e)) (ht : P.underlying e = some (.struct #[f0, f1])) (hone : oneCellFields P #[f0, f1] = true) (hC : P.cellsOf e = 2)
    (u0 : P.underlying f0.type = some .string) (u1 : P.underlying f1.type = some .string)
    (h : DataW.trod enc P w 0 (fun _ => true) true fuel t cs = some x) : ∃ (a : Option Addr) (c : Nat) (ps : List Pr), cs = [.slice a ps.length c] ∧ PrSl w (.slice a ps.length c) ps ∧ FitP ps ∧ ps.length ≤ maxLen := by
  rcases open_slice hsl h with ⟨hcs, _⟩ | ⟨a, len, cap, m, n, D', Pl, hcs, _, hl, hm, hmm, _, hel⟩
  · exact ⟨none, 0, [], hcs, .inl ⟨none, 0, rfl, rfl⟩, fun i hi => absurd hi (by simp), Nat.zero_le _⟩
  · simp only [if_true] at hmm
    subst hmm
    have hex : ∀ i, i < len → ∃ p : Pr, w.cells? 0 (a.add (i * 2)) 2 = some p.cells ∧ p.fst.size ≤ maxLen ∧ p.snd.size ≤ maxLen := by
      intro i hi
      obtain ⟨cs', h1, h2⟩ := hel i (by omega)
      rw [hC] at h1
      obtain ⟨p, rfl, hs, hv⟩ := ZJP ht hone hC u0 u1 h2
      exact ⟨p, h1, hs, hv⟩
    obtain ⟨f, hfx⟩ : ∃ f : Nat → Pr, ∀ i, i < len → w.cells? 0 (a.add (i * 2)) 2 = some (f i).cells ∧ (f i).fst.size ≤ maxLen ∧ (f i).snd.size ≤ maxLen := by
      refine ⟨fun i => if hi : i < len then Classical.choose (hex i hi) else ⟨ByteArray.empty, ByteArray.empty⟩, fun i hi => ?_⟩
      simp only [dif_pos hi]
      exact Classical.choose_spec (hex i hi)
    refine ⟨some a, m, (List.range len).map f, by simpa using hcs, ?_, ?_, by simp; omega⟩
    · by_cases h0 : len = 0
      · subst h0
        exact .inl ⟨some a, m, by simp, rfl⟩
      · have hc0 := (hfx 0 (by omega)).1
        have hspot : a.spot = none := by
          obtain ⟨_, _, hc⟩ := World.cells?_some hc0
          have := World.cell?_spot (hc 0 (by decide))
          simpa [Addr.add] using this
        have hblk : a.block < w.heap.size := by
          have := World.cells?_block hc0 (by decide)
          simpa [Addr.add] using this
        refine .inr ⟨a.block, a.off, m, ?_, by simp; omega, hblk, fun i hi => ?_⟩
        · obtain ⟨b, o, s⟩ := a
          simp at hspot
          subst hspot
          simp
        · have hi' : i < len := by simpa using hi
          simpa using ZD8 (hfx i hi').1 hspot
    · intro i hi
      have hi' : i < len := by simpa using hi
      simpa using (hfx i hi').2
theorem ZCf {f : Field} {n i : Nat} {cs : List Value} {c : Value} {y : Option (DataW H × List MemPlace)} {z : DataW H × List MemPlace} (ho : f.offset = i ∧ P.cellsOf f.type = 1) (hc : (cs.drop i).take 1 = [c])
    (h : DataW.trod enc P w 0 (fun _ => true) true n f.type ((cs.drop f.offset).take (P.cellsOf f.type)) = y) (hy : y = some z) : DataW.trod enc P w 0 (fun _ => true) true n f.type [c] = some z := by
  rw [ho.1, ho.2, hc, hy] at h; exact h
end
end Go.Proofs.YtookchpdbilbcaaGreatDoor
/-
  Names: what spec.NameRight, impl.NameRight, impl.isLetter and impl.isNameByte answer, for every text and byte: contracts over the seat's program.
-/
namespace Go.Proofs.YtookchpdbilbcaaGreatDoor
open Go.RowKit
def letC (c : Int) : Bool := decide (97 ≤ c) && decide (c ≤ 122)
def namC (c : Int) : Bool := letC c || (decide (48 ≤ c) && decide (c ≤ 57)) || c == 95
def okC (j : Nat) (c : Int) : Bool := letC c || (decide (j ≠ 0) && namC c)
def NR (s : ByteArray) : Prop := 1 ≤ s.size ∧ s.size ≤ 20 ∧ ∀ j, (h : j < s.size) → okC j (s[j].toNat : Int) = true
def nrB (s : ByteArray) : Bool := decide (1 ≤ s.size) && (decide (s.size ≤ 20) && decide (∀ j, (h : j < s.size) → okC j (s[j].toNat : Int) = true))
theorem nr_yes {s : ByteArray} (h1 : 1 ≤ s.size) (h2 : s.size ≤ 20) (h3 : ∀ j, (h : j < s.size) → okC j (s[j].toNat : Int) = true) : nrB s = true := by
  unfold nrB; simp [h1, h2]; exact h3
theorem ZGo {s : ByteArray} (h : ¬ (1 ≤ s.size ∧ s.size ≤ 20)) : nrB s = false := by
  unfold nrB
  by_cases a : 1 ≤ s.size
  · have b : ¬ s.size ≤ 20 := fun b => h ⟨a, b⟩
    simp [b]
  · simp [a]
theorem nr_at {s : ByteArray} {j : Nat} (hj : j < s.size) (h : okC j (s[j].toNat : Int) = false) : nrB s = false := by
  unfold nrB
  have : decide (∀ j, (h : j < s.size) → okC j (s[j].toNat : Int) = true) = false := by
    rw [decide_eq_false_iff_not]; intro f; rw [f j hj] at h; cases h
  rw [this]; simp
theorem ZGW {c : Int} (h1 : 97 ≤ c) (h2 : c ≤ 122) : letC c = true := by simp [letC, h1, h2]
theorem ZFd {c : Int} (h : ¬ (97 ≤ c ∧ c ≤ 122)) : letC c = false := by
  unfold letC; rw [Bool.and_eq_false_iff]; simp; omega
theorem ZA6 (c : Int) (w : World) :
    Calls Tryz.prog 145 #[.int .u8 c] w fun e w' => e = .returned (.bool (letC c)) ∧ w' = w := by
  by_cases h1 : 97 ≤ c
  · by_cases h2 : c ≤ 122
    · rw [ZGW h1 h2]
      go_enter Tryz.func145, Tryz.ntmps145
      go_wp2
      go_ret
      exact ⟨rfl, rfl⟩
    · rw [ZFd (by omega)]
      go_enter Tryz.func145, Tryz.ntmps145
      go_wp2
      go_ret
      exact ⟨rfl, rfl⟩
  · rw [ZFd (by omega)]
    go_enter Tryz.func145, Tryz.ntmps145
    go_wp2
    go_ret
    exact ⟨rfl, rfl⟩
theorem ZEY {c : Int} (h : letC c = true) : namC c = true := by simp [namC, h]
theorem ZGY {c : Int} (h1 : 48 ≤ c) (h2 : c ≤ 57) : namC c = true := by simp [namC, h1, h2]
theorem ZGG {c : Int} (h : c = 95) : namC c = true := by simp [namC, h]
theorem ZDB {c : Int} (h : letC c = false) (h1 : ¬ (48 ≤ c ∧ c ≤ 57)) (h2 : c ≠ 95) : namC c = false := by
  unfold namC; rw [h]; simp [h2]; omega
theorem ZDL (c : Int) (w : World) :
    Calls Tryz.prog 146 #[.int .u8 c] w fun e w' => e = .returned (.bool (namC c)) ∧ w' = w := by
  cases hl : letC c with
  | true =>
    rw [ZEY hl]
    have hc : ∀ w, Calls Tryz.prog 145 #[.int .u8 c] w fun e w' => e = .returned (.bool true) ∧ w' = w := fun w => by have := ZA6 c w; rwa [hl] at this
    clear hl
    go_enter Tryz.func146, Tryz.ntmps146
    go_wp2_with (go_at_call 145; refine (hc _).mono ?_; rintro e w' ⟨rfl, rfl⟩)
    go_ret
    exact ⟨rfl, rfl⟩
  | false =>
    have hc : ∀ w, Calls Tryz.prog 145 #[.int .u8 c] w fun e w' => e = .returned (.bool false) ∧ w' = w := fun w => by have := ZA6 c w; rwa [hl] at this
    by_cases h1 : 48 ≤ c
    · by_cases h2 : c ≤ 57
      · rw [ZGY h1 h2]
        clear hl
        go_enter Tryz.func146, Tryz.ntmps146
        go_wp2_with (go_at_call 145; refine (hc _).mono ?_; rintro e w' ⟨rfl, rfl⟩)
        go_ret
        exact ⟨rfl, rfl⟩
      · by_cases h3 : c = 95
        · rw [ZGG h3]
          clear hl
          subst h3
          go_enter Tryz.func146, Tryz.ntmps146
          go_wp2_with (go_at_call 145; refine (hc _).mono ?_; rintro e w' ⟨rfl, rfl⟩)
          go_ret
          exact ⟨rfl, rfl⟩
        · rw [ZDB hl (by omega) h3]
          have h4 : (c == 95) = false := by simp [h3]
          have h5 : decide (c ≤ 57) = false := by simp [h2]
          clear hl h3
          go_enter Tryz.func146, Tryz.ntmps146
          go_wp2_with (go_at_call 145; refine (hc _).mono ?_; rintro e w' ⟨rfl, rfl⟩)
          go_ret
          exact ⟨rfl, rfl⟩
    · rw [ZDB hl (by omega) (by omega)]
      have h4 : (c == 95) = false := by simp; omega
      clear hl
      go_enter Tryz.func146, Tryz.ntmps146
      go_wp2_with (go_at_call 145; refine (hc _).mono ?_; rintro e w' ⟨rfl, rfl⟩)
      go_ret
      exact ⟨rfl, rfl⟩
theorem ZFP {j : Nat} {c : Int} (h : letC c = false) (hj : j = 0) : okC j c = false := by simp [okC, h, hj]
theorem ZHi {j : Nat} {c : Int} (h : namC c = false) : okC j c = false := by
  have : letC c = false := by
    cases hl : letC c with
    | false => rfl
    | true => rw [ZEY hl] at h; cases h
  simp [okC, h, this]
theorem ZH6 {j : Nat} {c : Int} (h : letC c = true) : okC j c = true := by simp [okC, h]
theorem ZHc {j : Nat} {c : Int} (h : namC c = true) (hj : j ≠ 0) : okC j c = true := by simp [okC, h, hj]
theorem ZGQ {s : ByteArray} {k : Nat} {hk : k < s.size} (ha : ∀ j, j < k → (h : j < s.size) → okC j (s[j].toNat : Int) = true) (ho : okC k (s[k].toNat : Int) = true) :
    ∀ j, j < k + 1 → (h : j < s.size) → okC j (s[j].toNat : Int) = true := by
  intro j hj h
  by_cases e : j = k
  · subst e; exact ho
  · exact ha j (by omega) h
theorem byteCases (c : Int) (k : Nat) :
    (okC k c = true ∧ 97 ≤ c ∧ c ≤ 122) ∨
    (okC k c = false ∧ ((k : Int) == 0) = true ∧ c < 97) ∨
    (okC k c = false ∧ ((k : Int) == 0) = true ∧ 97 ≤ c ∧ decide (c ≤ 122) = false) ∨
    (okC k c = true ∧ ((k : Int) == 0) = false ∧ c < 97 ∧ 48 ≤ c ∧ c ≤ 57) ∨
    (okC k c = true ∧ ((k : Int) == 0) = false ∧ c < 97 ∧ 48 ≤ c ∧ decide (c ≤ 57) = false ∧ (c != 95) = false) ∨
    (okC k c = false ∧ ((k : Int) == 0) = false ∧ c < 97 ∧ 48 ≤ c ∧ decide (c ≤ 57) = false ∧ (c != 95) = true) ∨
    (okC k c = false ∧ ((k : Int) == 0) = false ∧ c < 97 ∧ c < 48 ∧ (c != 95) = true) ∨
    (okC k c = false ∧ ((k : Int) == 0) = false ∧ 97 ≤ c ∧ decide (c ≤ 122) = false ∧ 48 ≤ c ∧ decide (c ≤ 57) = false ∧ (c != 95) = true) := by
  by_cases h : 97 ≤ c ∧ c ≤ 122
  · exact .inl ⟨ZH6 (ZGW h.1 h.2), h⟩
  · have hl := ZFd h
    refine .inr ?_
    by_cases hk : k = 0
    · have hk' : ((k : Int) == 0) = true := by simp [hk]
      by_cases h1 : c < 97
      · exact .inl ⟨ZFP hl hk, hk', h1⟩
      · exact .inr (.inl ⟨ZFP hl hk, hk', by omega, by simp; omega⟩)
    · have hk' : ((k : Int) == 0) = false := by simp [hk]
      refine .inr (.inr ?_)
      by_cases h1 : c < 97
      · by_cases h2 : 48 ≤ c
        · by_cases h3 : c ≤ 57
          · exact .inl ⟨ZHc (ZGY h2 h3) hk, hk', h1, h2, h3⟩
          · by_cases h4 : c = 95
            · exact .inr (.inl ⟨ZHc (ZGG h4) hk, hk', h1, h2, by simp; omega, by simp [h4]⟩)
            · exact .inr (.inr (.inl ⟨ZHi (ZDB hl (by omega) h4), hk', h1, h2, by simp; omega, by simp [h4]⟩))
        · exact .inr (.inr (.inr (.inl ⟨ZHi (ZDB hl (by omega) (by omega)), hk', h1, by omega, by simp; omega⟩)))
      · exact .inr (.inr (.inr (.inr ⟨ZHi (ZDB hl (by omega) (by omega)), hk', by omega, by simp; omega, by omega, by simp; omega, by simp; omega⟩)))
theorem ZBB (s : ByteArray) (w : World) (hs : s.size ≤ maxLen) :
    Calls Tryz.prog 64 #[.string s] w fun e w' => e = .returned (.bool (nrB s)) ∧ w' = w := by
  unfold maxLen at hs
  by_cases h1 : 1 ≤ s.size
  · by_cases h2 : s.size ≤ 20
    · go_enter Tryz.func64, Tryz.ntmps64
      go_wp2
      go_loop [3] (fun i => ∃ k : Nat, k ≤ s.size ∧ i = .int .i64 k ∧ ∀ j, j < k → (h : j < s.size) → okC j (s[j].toNat : Int) = true) (fun i => s.size - (intOf i).toNat)
      case atStart => exact ⟨0, Nat.zero_le _, rfl, fun j hj => absurd hj (by omega)⟩
      case round =>
        obtain ⟨k, hk, rfl, hall⟩ := hrel
        have HA := hid hall
        clear hall
        by_cases hlt : k < s.size
        · have hE : ∀ b, okC k (s[k].toNat : Int) = b → Hid (okC k (s[k].toNat : Int) = b) := fun _ h => h
          rcases byteCases (s[k].toNat : Int) k with ⟨ho, c1, c2⟩ | ⟨ho, hk0, c1⟩ | ⟨ho, hk0, c1, c2⟩ | ⟨ho, hk1, c1, c2, c3⟩ | ⟨ho, hk1, c1, c2, c3, c4⟩ | ⟨ho, hk1, c1, c2, c3, c4⟩ | ⟨ho, hk1, c1, c2, c3⟩ | ⟨ho, hk1, c1, c2, c3, c4, c5⟩
          all_goals
            have HO := hE _ ho
            clear ho hE
            go_wp2
          all_goals
            first
            | (go_ret; exact ⟨ZAd (nr_at hlt HO.out).symm, rfl⟩)
            | (go_round
               case rel => exact ⟨k + 1, by omega, by go_num, ZGQ HA.out HO.out⟩
               case measure => simp [intOf]; omega)
        · go_wp2
          go_ret
          exact ⟨ZAd (nr_yes h1 h2 (fun j hj => HA.out j (by omega) hj)).symm, rfl⟩
    · rw [ZGo (by omega)]
      go_enter Tryz.func64, Tryz.ntmps64
      go_wp2
      go_ret
      exact ⟨rfl, rfl⟩
  · rw [ZGo (by omega)]
    go_enter Tryz.func64, Tryz.ntmps64
    go_wp2
    go_ret
    exact ⟨rfl, rfl⟩
theorem ZHQ {j : Nat} {c : Int} (hj : j ≠ 0) : namC c = okC j c := by
  unfold okC
  cases hl : letC c with
  | true => simp [ZEY hl]
  | false => simp [hj]
theorem ZIv {s : ByteArray} {h0 : 0 < s.size} (hl : letC (s[0].toNat : Int) = true) : ∀ j, j < 1 → (h : j < s.size) → okC j (s[j].toNat : Int) = true := by
  intro j hj h
  obtain rfl : j = 0 := by omega
  exact ZH6 hl
theorem ZAm (s : ByteArray) (w : World) (hs : s.size ≤ maxLen) :
    Calls Tryz.prog 119 #[.string s] w fun e w' => e = .returned (.bool (nrB s)) ∧ w' = w := by
  unfold maxLen at hs
  by_cases h1 : 1 ≤ s.size
  · by_cases h2 : s.size ≤ 20
    · cases hl : letC (s[0].toNat : Int) with
      | false =>
        rw [nr_at (show 0 < s.size by omega) (ZFP hl rfl)]
        have hc : ∀ w, Calls Tryz.prog 145 #[.int .u8 (s[0].toNat : Int)] w fun e w' => e = .returned (.bool false) ∧ w' = w := fun w => by have := ZA6 (s[0].toNat : Int) w; rwa [hl] at this
        clear hl
        go_enter Tryz.func119, Tryz.ntmps119
        go_wp2_with (go_at_call 145; refine (hc _).mono ?_; rintro e w' ⟨rfl, rfl⟩)
        go_ret
        exact ⟨rfl, rfl⟩
      | true =>
        have hc : ∀ w, Calls Tryz.prog 145 #[.int .u8 (s[0].toNat : Int)] w fun e w' => e = .returned (.bool true) ∧ w' = w := fun w => by have := ZA6 (s[0].toNat : Int) w; rwa [hl] at this
        have HL := hid hl
        clear hl
        go_enter Tryz.func119, Tryz.ntmps119
        go_wp2_with (go_at_call 145; refine (hc _).mono ?_; rintro e w' ⟨rfl, rfl⟩)
        clear hc
        go_loop [3] (fun i => ∃ k : Nat, 1 ≤ k ∧ k ≤ s.size ∧ i = .int .i64 k ∧ ∀ j, j < k → (h : j < s.size) → okC j (s[j].toNat : Int) = true) (fun i => s.size - (intOf i).toNat)
        case atStart => exact ⟨1, by omega, by omega, rfl, ZIv HL.out⟩
        case round =>
          obtain ⟨k, hk0, hk, rfl, hall⟩ := hrel
          have HA := hid hall
          clear hall
          by_cases hlt : k < s.size
          · have hc : ∀ w, Calls Tryz.prog 146 #[.int .u8 (s[k].toNat : Int)] w fun e w' => e = .returned (.bool (okC k (s[k].toNat : Int))) ∧ w' = w := fun w => by rw [← ZHQ (show k ≠ 0 by omega)]; exact ZDL _ w
            cases ho : okC k (s[k].toNat : Int) with
            | false =>
              rw [ho] at hc
              have HO := hid ho
              clear ho
              go_wp2_with (go_at_call 146; refine (hc _).mono ?_; rintro e w' ⟨rfl, rfl⟩)
              go_ret
              exact ⟨ZAd (nr_at hlt HO.out).symm, rfl⟩
            | true =>
              rw [ho] at hc
              have HO := hid ho
              clear ho
              go_wp2_with (go_at_call 146; refine (hc _).mono ?_; rintro e w' ⟨rfl, rfl⟩)
              go_round
              case rel => exact ⟨k + 1, by omega, by omega, by go_num, ZGQ HA.out HO.out⟩
              case measure => simp [intOf]; omega
          · go_wp2
            go_ret
            exact ⟨ZAd (nr_yes h1 h2 (fun j hj => HA.out j (by omega) hj)).symm, rfl⟩
    · rw [ZGo (by omega)]
      go_enter Tryz.func119, Tryz.ntmps119
      go_wp2
      go_ret
      exact ⟨rfl, rfl⟩
  · rw [ZGo (by omega)]
    go_enter Tryz.func119, Tryz.ntmps119
    go_wp2
    go_ret
    exact ⟨rfl, rfl⟩
end Go.Proofs.YtookchpdbilbcaaGreatDoor
