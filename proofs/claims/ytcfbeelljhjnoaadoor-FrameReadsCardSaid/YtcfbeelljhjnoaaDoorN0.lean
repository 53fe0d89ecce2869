/-
  Frames in plain Lean, over no program: which may be, how long they are, their bits, and the frame of bits. No condition but those that each theorem names.
-/
import Derived.Test.YtcfbeelljhjnoaaDoorQE
namespace Go.Proofs.YtcfbeelljhjnoaaDoor
open Go.RowKit

/-- A frame. -/
structure FR where
  K : Int
  R : Int
  C : CS
  F : Int
  ds : List UInt8
def zeroF : FR := ⟨0, 0, zeroC, 0, []⟩
/-- May it be? -/
def mayF (f : FR) : Bool :=
  decide (1 ≤ f.K ∧ f.K ≤ 4 ∧ mayC f.C 8 = true ∧ 0 ≤ f.R ∧ f.R ≤ 4 ∧ f.ds.length ≤ 8 ∧ (f.ds.length = 0 ∨ f.K = 2 ∨ f.K = 4) ∧
    (f.K ≠ 1 ∨ (f.R = 0 ∧ 0 ≤ f.F ∧ f.F < 8 ∧ f.C.P = 0 ∧ f.C.Mo = 0 ∧ f.C.Nx = 0 ∧ f.C.Me = 0)) ∧ (f.K = 1 ∨ f.F = 0))
/-- Check, by the document. -/
def checkF (f : FR) : Int := if mayF f = true then 0 else 50
/-- Size, by the document. -/
def sizeF (k d : Int) : Int :=
  if 0 ≤ d ∧ d ≤ 8 then
    if k = 1 then (if d = 0 then 40 else 0) else if k = 2 then 29 + 8 * d else if k = 3 then (if d = 0 then 54 else 0) else if k = 4 then 79 + 8 * d else 0
  else 0
/-- Bits and their sum, over what is not sent. -/
def sealB (u l : List Bool) : List Bool := l ++ numBits (rem 0 (u ++ l)) 24
/-- Bytes as bits. -/
def dataL (ds : List UInt8) : List Bool := ds.flatMap fun x => numBits x.toNat 8
/-- Bits as bytes. -/
def bytesL (m : List Bool) : List UInt8 := (List.range (m.length / 8)).map fun i => UInt8.ofNat (numOf ((m.drop (8 * i)).take 8))
/-- The bits ahead of the first sum, Data apart. -/
def headL (f : FR) : List Bool :=
  if f.K = 1 then numBits 0 2 ++ (numBits f.F.toNat 3 ++ (numBits f.C.T.toNat 8 ++ numBits 0 3))
  else if f.K = 2 then numBits 1 2 ++ numBits f.R.toNat 3
  else if f.K = 3 then numBits 2 2 ++ (numBits f.R.toNat 3 ++ (numBits 0 1 ++ bitsOf f.C))
  else numBits 3 2 ++ (numBits f.R.toNat 3 ++ (numBits 0 2 ++ bitsOf f.C))
/-- A frame's bits. -/
def bitsF (f : FR) : List Bool :=
  if f.K = 1 then sealB [] (headL f) else if f.K = 2 then sealB (bitsOf f.C) (headL f ++ dataL f.ds) else if f.K = 3 then sealB [] (headL f)
  else sealB (bitsOf f.C) (sealB [] (headL f) ++ dataL f.ds)
/-- Encode, by the document. -/
def encF (f : FR) : Int × List Bool := if mayF f = true then (0, bitsF f) else (50, [])

/-- The Kind that bits tell. -/
def kindL (l : List Bool) : Nat := numOf (l.take 2) + 1
/-- Is a length one of a Kind's? -/
def longF (k : Nat) (n : Nat) : Bool := decide ((k = 1 ∧ n = 40) ∨ (k = 2 ∧ 29 ≤ n ∧ n ≤ 93 ∧ n % 8 = 5) ∨ (k = 3 ∧ n = 54) ∨ (k = 4 ∧ 79 ≤ n ∧ n ≤ 143 ∧ n % 8 = 7))
/-- Are the bits 0 that must be? -/
def zeroL (k : Nat) (l : List Bool) : Bool :=
  if k = 1 then decide (numOf ((l.drop 13).take 3) = 0) else if k = 3 then decide (numOf ((l.drop 5).take 1) = 0) else if k = 4 then decide (numOf ((l.drop 5).take 2) = 0) else true
/-- The state's bits, where they stand. -/
def stateL (k : Nat) (l : List Bool) : List Bool := (l.drop (if k = 3 then 6 else 7)).take 24
/-- Are all sums right? -/
def sumsL (k : Nat) (l : List Bool) (c : CS) : Bool :=
  if k = 2 then decide (rem 0 (bitsOf c ++ l) = 0) else if k = 4 then decide (rem 0 (l.take 55) = 0) && decide (rem 0 (stateL 4 l ++ l) = 0) else decide (rem 0 l = 0)
/-- The frame that bits tell. -/
def toldF (k : Nat) (l : List Bool) (c : CS) : FR :=
  if k = 1 then ⟨1, 0, ⟨numOf ((l.drop 5).take 8), 0, 0, 0, 0⟩, numOf ((l.drop 2).take 3), []⟩
  else if k = 2 then ⟨2, numOf ((l.drop 2).take 3), c, 0, bytesL ((l.drop 5).take (l.length - 29))⟩
  else if k = 3 then ⟨3, numOf ((l.drop 2).take 3), fieldsOf (stateL 3 l), 0, []⟩
  else ⟨4, numOf ((l.drop 2).take 3), fieldsOf (stateL 4 l), 0, bytesL ((l.drop 55).take (l.length - 79))⟩
/-- The frame of bits, for a state that may be. -/
def readL (l : List Bool) (c : CS) : Int × FR :=
  if longF (kindL l) l.length = true ∧ zeroL (kindL l) l = true then
    if sumsL (kindL l) l c = true then
      if mayF (toldF (kindL l) l c) = true then (0, toldF (kindL l) l c) else (51, zeroF)
    else (21, zeroF)
  else (51, zeroF)
/-- Parse, by the document. -/
def readF (N : Int) (bs : List UInt8) (c : CS) : Int × FR := if goodB N bs = true then if mayC c 8 = true then readL (listOf N bs) c else (40, zeroF) else (10, zeroF)
/-- Good, by the document. -/
def sameC (a b : CS) : Bool := decide (a.T = b.T ∧ a.P = b.P ∧ a.Mo = b.Mo ∧ a.Nx = b.Nx ∧ a.Me = b.Me)
theorem sameC_iff (a b : CS) : sameC a b = true ↔ a = b := by
  obtain ⟨a0, a1, a2, a3, a4⟩ := a
  obtain ⟨b0, b1, b2, b3, b4⟩ := b
  simp [sameC]
def goodF (N : Int) (bs : List UInt8) (c : CS) : Bool × FR := if (readF N bs c).1 = 0 ∧ (readF N bs c).2.K ≠ 1 ∧ sameC (readF N bs c).2.C c = true then (true, (readF N bs c).2) else (false, zeroF)
/-- Explicit, by the document. -/
def explF (N : Int) (bs : List UInt8) : Bool × FR := if (readF N bs zeroC).1 = 0 ∧ (readF N bs zeroC).2.K ≠ 2 then (true, (readF N bs zeroC).2) else (false, zeroF)
/-- Same, by the document. -/
def sameF (a b : FR) : Bool := decide (a.K = b.K ∧ a.R = b.R ∧ a.C.T = b.C.T ∧ a.C.P = b.C.P ∧ a.C.Mo = b.C.Mo ∧ a.C.Nx = b.C.Nx ∧ a.C.Me = b.C.Me ∧ a.F = b.F ∧ a.ds = b.ds)
theorem sameF_self (a : FR) : sameF a a = true := by simp [sameF]

theorem dataL_length (ds : List UInt8) : (dataL ds).length = 8 * ds.length := by
  induction ds with
  | nil => rfl
  | cons x ds ih => rw [dataL, List.flatMap_cons, List.length_append, numBits_length, List.length_cons]; rw [dataL] at ih; rw [ih]; omega
theorem dataL_cons (x : UInt8) (ds : List UInt8) : dataL (x :: ds) = numBits x.toNat 8 ++ dataL ds := by rw [dataL, List.flatMap_cons]; rfl
theorem dataL_append (a b : List UInt8) : dataL (a ++ b) = dataL a ++ dataL b := by rw [dataL, List.flatMap_append]; rfl
theorem dataL_one (x : UInt8) : dataL [x] = numBits x.toNat 8 := by rw [dataL_cons]; exact List.append_nil _
theorem sealB_length (u l : List Bool) : (sealB u l).length = l.length + 24 := by simp [sealB, numBits_length]

theorem bitAt_cons_lt (x : UInt8) (ds : List UInt8) {i : Nat} (h : i < 8) : bitAt (x :: ds) i = x.toNat.testBit (7 - i) := by
  unfold bitAt
  rw [Nat.div_eq_of_lt h, Nat.mod_eq_of_lt h]
  rfl
theorem bitAt_cons_ge (x : UInt8) (ds : List UInt8) (i : Nat) : bitAt (x :: ds) (i + 8) = bitAt ds i := by
  unfold bitAt
  rw [Nat.add_div_right _ (by decide), Nat.add_mod_right, List.getElem?_cons_succ]
/-- Bytes are their bits. -/
theorem isBits_data (ds : List UInt8) : IsBits (dataL ds) ds := by
  refine ⟨by rw [dataL_length]; omega, ?_⟩
  induction ds with
  | nil => intro i; simp [bitAt, dataL]
  | cons x ds ih =>
    intro i
    rw [dataL_cons]
    by_cases hi : i < 8
    · rw [bitAt_cons_lt _ _ hi, List.getElem?_append_left (by rw [numBits_length]; exact hi)]
      simp [numBits, hi]
    · obtain ⟨j, rfl⟩ : ∃ j, i = j + 8 := ⟨i - 8, by omega⟩
      rw [bitAt_cons_ge, ih, List.getElem?_append_right (by rw [numBits_length]; omega), numBits_length, Nat.add_sub_cancel]
theorem bytesL_length (m : List Bool) : (bytesL m).length = m.length / 8 := by simp [bytesL]
/-- The bits of the bytes of bits. -/
theorem data_bytes (m : List Bool) (h : m.length % 8 = 0) : dataL (bytesL m) = m := by
  obtain ⟨k, hk⟩ : ∃ k, m.length = 8 * k := ⟨m.length / 8, by omega⟩
  have key : ∀ j, j ≤ k → dataL ((List.range j).map fun i => UInt8.ofNat (numOf ((m.drop (8 * i)).take 8))) = m.take (8 * j) := by
    intro j
    induction j with
    | zero => intro _; simp [dataL]
    | succ j ih =>
      intro hj
      have hl : ((m.drop (8 * j)).take 8).length = 8 := by rw [List.length_take, List.length_drop]; omega
      have hlt := numOf_lt ((m.drop (8 * j)).take 8)
      rw [hl] at hlt
      have hb := numBits_numOf ((m.drop (8 * j)).take 8)
      rw [hl] at hb
      rw [List.range_succ, List.map_append, dataL_append, ih (by omega), List.map_cons, List.map_nil, dataL_one, UInt8.toNat_ofNat_of_lt' (by simpa using hlt), hb, show 8 * (j + 1) = 8 * j + 8 by omega, List.take_add]
  unfold bytesL
  have hq : m.length / 8 = k := by omega
  rw [hq, key k (Nat.le_refl _), ← hk, List.take_length]
theorem bytes_data (ds : List UInt8) : bytesL (dataL ds) = ds := by
  have h1 : IsBits (dataL (bytesL (dataL ds))) (bytesL (dataL ds)) := isBits_data _
  rw [data_bytes _ (by rw [dataL_length]; omega)] at h1
  exact h1.unique (isBits_data ds)
theorem isBits_bytes {m : List Bool} {bs : List UInt8} (h : IsBits m bs) (h8 : m.length % 8 = 0) : bs = bytesL m := by
  have h1 : IsBits (dataL (bytesL m)) (bytesL m) := isBits_data _
  rw [data_bytes m h8] at h1
  exact h.unique h1
/-- One byte more. -/
theorem bytes_next (m : List Bool) (k : Nat) : ((List.range (k + 1)).map fun i => UInt8.ofNat (numOf ((m.drop (8 * i)).take 8))) = ((List.range k).map fun i => UInt8.ofNat (numOf ((m.drop (8 * i)).take 8))) ++ [UInt8.ofNat (numOf ((m.drop (8 * k)).take 8))] := by
  rw [List.range_succ, List.map_append]; rfl
end Go.Proofs.YtcfbeelljhjnoaaDoor
