/-
  Contracts over lists of truths: Put, Get, Slice, Join of two, Seal, Open, a state's bits and the state of bits, of the program and of the document, for bits that may be. Conditions: that the bits can be read, and (the program's) that its tables hold what its text lays.
-/
import Derived.Test.YtcfbeelljhjnoaaDoorN3
import Derived.Test.YtcfbeelljhjnoaaDoorQC
import Derived.Test.YtcfbeelljhjnoaaDoorQD
namespace Go.Proofs.YtcfbeelljhjnoaaDoor
open Go.RowKit

/-- Bits that may be, whose truths are L, in bytes that can be read. -/
def Bv (w : World) (L : List Bool) (A : Option Addr) (n : Nat) : Prop := ∃ bs, n = bs.length ∧ IsBits L bs ∧ L.length ≤ 4096 ∧ Byt w.heap.size w A bs
theorem Bv.on {w w' : World} {L : List Bool} {A : Option Addr} {n : Nat} (h : Bv w L A n) (hb : Below w.heap.size w w') : Bv w' L A n := by
  obtain ⟨bs, h1, h2, h3, h4⟩ := h
  exact ⟨bs, h1, h2, h3, h4.on hb⟩
theorem Bv.nil (w : World) : Bv w [] none 0 := ⟨[], rfl, isBits_nil, by simp, fun h => absurd rfl h⟩
theorem Bv.len {w : World} {L : List Bool} {A : Option Addr} {n : Nat} (h : Bv w L A n) : L.length ≤ 4096 := by obtain ⟨bs, h1, h2, h3, h4⟩ := h; exact h3
/-- Bytes do not lie in a box that holds none. -/
theorem Byt.apart {w : World} {A : Option Addr} {bs : List UInt8} (h : Byt w.heap.size w A bs) {g : Nat} {t : TypeId} {cs : Array Value} (hk : Blk w g t cs) (hu : ∀ (i : Nat) (x : Int), cs[i]? ≠ some (.int .u8 x)) (i : Nat) (v : Value) : Byt (w.setCell ⟨g, i, none⟩ v).heap.size (w.setCell ⟨g, i, none⟩ v) A bs := fun hn => by
  obtain ⟨b, off, rfl, hlt, hc⟩ := h hn
  have hbg : b ≠ g := by
    rintro rfl
    have h0 := hc 0 (List.length_pos_iff.2 hn)
    have h1 := hk.cell off
    rw [Nat.add_zero] at h0
    rw [h0] at h1
    exact hu _ _ h1.symm
  exact ⟨b, off, rfl, by simpa using hlt, fun j hj => (World.cell?_setCell_other w _ _ v (fun e => hbg (by injection e with e1 _ _; exact e1.symm))).trans (hc j hj)⟩
theorem no_u8 (N : Int) (X : Option Addr) (m c : Nat) : ∀ (i : Nat) (x : Int), (#[.int .i64 N, .slice X m c] : Array Value)[i]? ≠ some (.int .u8 x) := by
  intro i x h
  match i, h with
  | 0, h => simp at h
  | 1, h => simp at h
  | i + 2, h => simp at h
theorem Byt.box {w : World} {A : Option Addr} {bs : List UInt8} (h : Byt w.heap.size w A bs) {g : Nat} {t : TypeId} {N N' : Int} {X X' : Option Addr} {m c m' c' : Nat} (hk : Blk w g t #[.int .i64 N, .slice X m c]) : Byt ((w.setCell ⟨g, 0, none⟩ (.int .i64 N')).setCell ⟨g, 1, none⟩ (.slice X' m' c')).heap.size ((w.setCell ⟨g, 0, none⟩ (.int .i64 N')).setCell ⟨g, 1, none⟩ (.slice X' m' c')) A bs := by
  have h1 := h.apart hk (no_u8 N X m c) 0 (.int .i64 N')
  have hk1 : Blk (w.setCell ⟨g, 0, none⟩ (.int .i64 N')) g t #[.int .i64 N', .slice X m c] := by simpa using hk.set_ 0 (.int .i64 N')
  exact h1.apart hk1 (no_u8 N' X m c) 1 _
theorem Bv.box {w : World} {L : List Bool} {A : Option Addr} {n : Nat} (h : Bv w L A n) {g : Nat} {t : TypeId} {N N' : Int} {X X' : Option Addr} {m c m' c' : Nat} (hk : Blk w g t #[.int .i64 N, .slice X m c]) : Bv ((w.setCell ⟨g, 0, none⟩ (.int .i64 N')).setCell ⟨g, 1, none⟩ (.slice X' m' c')) L A n := by
  obtain ⟨bs, h1, h2, h3, h4⟩ := h
  exact ⟨bs, h1, h2, h3, h4.box hk⟩
/-- What a call answers: an error's number and bits. -/
def ResV (w : World) (r : Int × List Bool) (e : Ending) (w' : World) : Prop :=
  ∃ (A : Option Addr) (n c : Nat), e = .returned (.tuple #[.agg #[.int .i64 r.2.length, .slice A n c], .int .i64 r.1]) ∧ Bv w' r.2 A n ∧ Below w.heap.size w w'
theorem Res.v {w w' : World} {r : Int × List Bool} {e : Ending} (h : Res w r e w') : ResV w r e w' := by
  obtain ⟨A, n, c, bs, h1, h2, h3, h4, h5, h6, _⟩ := h
  exact ⟨A, n, c, h1, ⟨bs, h2, h3, h4, h5⟩, h6⟩
/-- What a call answers: bits alone. -/
def ResB (w : World) (L : List Bool) (e : Ending) (w' : World) : Prop :=
  ∃ (A : Option Addr) (n c : Nat), e = .returned (.agg #[.int .i64 L.length, .slice A n c]) ∧ Bv w' L A n ∧ Below w.heap.size w w'
theorem Bv.parts {w : World} {L : List Bool} {A : Option Addr} {n : Nat} (h : Bv w L A n) : ∃ bs, n = bs.length ∧ n ≤ maxLen ∧ IsBits L bs ∧ L.length ≤ 4096 ∧ Byt w.heap.size w A bs ∧ goodB L.length bs = true ∧ listOf L.length bs = L := by
  obtain ⟨bs, h1, h2, h3, h4⟩ := h
  exact ⟨bs, h1, by rw [h1, h2.1]; unfold maxLen; omega, h2, h3, h4, isBits_good h2 h3, isBits_listOf h2⟩
theorem Bv.of_good {w : World} {N : Int} {A : Option Addr} {n : Nat} {bs : List UInt8} (hn : n = bs.length) (hA : Byt w.heap.size w A bs) (hg : goodB N bs = true) : Bv w (listOf N bs) A n ∧ N = ((listOf N bs).length : Int) := by
  have h1 := good_isBits hg
  have h2 := good_length hg
  have h3 := ((good_iff N bs).1 hg).2.1
  exact ⟨⟨bs, hn, h1, by omega, hA⟩, h2.symm⟩
theorem join_pair (N M : Int) (A B : Option Addr) (n c m d : Nat) (bs us : List UInt8) (h1 : goodB N bs = true) (h2 : goodB M us = true) (hl : (listOf N bs).length + (listOf M us).length ≤ 4096) : joinS [⟨N, A, n, c, bs⟩, ⟨M, B, m, d, us⟩] = (0, listOf N bs ++ listOf M us) := by
  have hg : allGood [⟨N, A, n, c, bs⟩, ⟨M, B, m, d, us⟩] = true := by simp [allGood, h1, h2]
  have hc : cat [⟨N, A, n, c, bs⟩, ⟨M, B, m, d, us⟩] = listOf N bs ++ listOf M us := by simp [cat, lst, h1, h2]
  unfold joinS
  rw [if_pos hg, hc, if_neg (by rw [List.length_append]; omega)]

theorem put_list {w : World} {L : List Bool} {A : Option Addr} {n : Nat} (h : Bv w L A n) (c : Nat) {N vi Wi : Int} {v W : Nat} (hN : N = (L.length : Int)) (hv : vi = v) (hW : Wi = W) (h64 : W ≤ 24) (hlt : v < 2 ^ W) (hl : L.length + W ≤ 4096) :
    Calls Tryd.prog 59 #[.agg #[.int .i64 N, .slice A n c], .int .u64 vi, .int .i64 Wi] w (ResV w (0, L ++ numBits v W)) := by
  subst hN hv hW
  obtain ⟨bs, h1, h2, h3, h4, h5, h6, h7⟩ := h.parts
  have hp := put_any L.length W v A n c bs w h1 h2 h5 (Nat.lt_of_lt_of_le hlt (Nat.pow_le_pow_right (by omega) (by omega)))
  have hs : putS L.length bs v W = (0, L ++ numBits v W) := by
    unfold putS
    rw [if_pos h6, if_pos ⟨by omega, by rw [Int.toNat_natCast]; exact Nat.div_eq_of_lt hlt⟩, if_neg (by omega), Int.toNat_natCast, h7]
  rw [hs] at hp
  exact hp.mono fun e w' h => h.v
theorem get_list {w : World} {L : List Bool} {A : Option Addr} {n : Nat} (h : Bv w L A n) (c : Nat) {N ai Wi : Int} {a W : Nat} (hN : N = (L.length : Int)) (ha : ai = a) (hW : Wi = W) (h64 : W ≤ 24) (hl : a + W ≤ L.length) :
    Calls Tryd.prog 74 #[.agg #[.int .i64 N, .slice A n c], .int .i64 ai, .int .i64 Wi] w (Num w (0, numOf ((L.drop a).take W))) := by
  subst hN ha hW
  obtain ⟨bs, h1, h2, h3, h4, h5, h6, h7⟩ := h.parts
  have hp := get_any L.length a W A n c bs w h1 h2 h5
  have hs : getS L.length bs a W = (0, numOf ((L.drop a).take W)) := by
    unfold getS
    rw [if_pos h6, if_pos (by omega), Int.toNat_natCast, Int.toNat_natCast, h7]
  rw [hs] at hp
  exact hp
theorem slice_list {w : World} {L : List Bool} {A : Option Addr} {n : Nat} (h : Bv w L A n) (c : Nat) {N ai bi : Int} {a b : Nat} (hN : N = (L.length : Int)) (ha : ai = a) (hb : bi = b) (hab : a ≤ b) (hl : b ≤ L.length) :
    Calls Tryd.prog 46 #[.agg #[.int .i64 N, .slice A n c], .int .i64 ai, .int .i64 bi] w (ResV w (0, (L.drop a).take (b - a))) := by
  subst hN ha hb
  obtain ⟨bs, h1, h2, h3, h4, h5, h6, h7⟩ := h.parts
  have hp := slice_any L.length a b A n c bs w h1 h2 h5
  rw [slice_more h3 h4 a b hab hl] at hp
  exact hp.mono fun e w' h => h.v
theorem join_list {w : World} {L U : List Bool} {A B : Option Addr} {n m : Nat} (h : Bv w L A n) (hu : Bv w U B m) {c d g : Nat} {N M : Int} (hk : Blk w g 28 #[.int .i64 N, .slice A n c, .int .i64 M, .slice B m d]) (hN : N = (L.length : Int)) (hM : M = (U.length : Int)) (hl : L.length + U.length ≤ 4096) :
    Calls Tryd.prog 30 #[.slice (some ⟨g, 0, none⟩) 2 2] w (ResV w (0, L ++ U)) := by
  subst hN hM
  obtain ⟨bs, h1, h2, h3, h4, h5, h6, h7⟩ := h.parts
  obtain ⟨us, i1, i2, i3, i4, i5, i6, i7⟩ := hu.parts
  have hp := join_any (some ⟨g, 0, none⟩) 2 2 [⟨L.length, A, n, c, bs⟩, ⟨U.length, B, m, d, us⟩] w rfl (by unfold maxLen; omega) (pair_bvs hk) (fun x hx => by
    rcases List.mem_cons.1 hx with rfl | hx
    · exact ⟨h1, h2, h5⟩
    · rcases List.mem_cons.1 hx with rfl | hx
      · exact ⟨i1, i2, i5⟩
      · cases hx)
  rw [join_pair _ _ _ _ _ _ _ _ _ _ h6 i6 (by rw [h7, i7]; exact hl), h7, i7] at hp
  exact hp.mono fun e w' h => h.v

theorem rput_list {w : World} {L : List Bool} {A : Option Addr} {n : Nat} (h : Bv w L A n) (c : Nat) {N vi Wi : Int} {v W : Nat} (hN : N = (L.length : Int)) (hv : vi = v) (hW : Wi = W) (h64 : W ≤ 24) (hlt : v < 2 ^ W) (hl : L.length + W ≤ 4096) :
    Calls Tryd.prog 65 #[.agg #[.int .i64 N, .slice A n c], .int .u64 vi, .int .i64 Wi] w (ResV w (0, L ++ numBits v W)) := by
  subst hN hv hW
  obtain ⟨bs, h1, h2, h3, h4, h5, h6, h7⟩ := h.parts
  have hp := rput_any L.length W v A n c bs w h1 h2 h5 (Nat.lt_of_lt_of_le hlt (Nat.pow_le_pow_right (by omega) (by omega)))
  have hs : putS L.length bs v W = (0, L ++ numBits v W) := by
    unfold putS
    rw [if_pos h6, if_pos ⟨by omega, by rw [Int.toNat_natCast]; exact Nat.div_eq_of_lt hlt⟩, if_neg (by omega), Int.toNat_natCast, h7]
  rw [hs] at hp
  exact hp.mono fun e w' h => h.v
theorem rget_list {w : World} {L : List Bool} {A : Option Addr} {n : Nat} (h : Bv w L A n) (c : Nat) {N ai Wi : Int} {a W : Nat} (hN : N = (L.length : Int)) (ha : ai = a) (hW : Wi = W) (h64 : W ≤ 24) (hl : a + W ≤ L.length) :
    Calls Tryd.prog 78 #[.agg #[.int .i64 N, .slice A n c], .int .i64 ai, .int .i64 Wi] w (Num w (0, numOf ((L.drop a).take W))) := by
  subst hN ha hW
  obtain ⟨bs, h1, h2, h3, h4, h5, h6, h7⟩ := h.parts
  have hp := rget_any L.length a W A n c bs w h1 h2 h5
  have hs : getS L.length bs a W = (0, numOf ((L.drop a).take W)) := by
    unfold getS
    rw [if_pos h6, if_pos (by omega), Int.toNat_natCast, Int.toNat_natCast, h7]
  rw [hs] at hp
  exact hp
theorem rslice_list {w : World} {L : List Bool} {A : Option Addr} {n : Nat} (h : Bv w L A n) (c : Nat) {N ai bi : Int} {a b : Nat} (hN : N = (L.length : Int)) (ha : ai = a) (hb : bi = b) (hab : a ≤ b) (hl : b ≤ L.length) :
    Calls Tryd.prog 79 #[.agg #[.int .i64 N, .slice A n c], .int .i64 ai, .int .i64 bi] w (ResV w (0, (L.drop a).take (b - a))) := by
  subst hN ha hb
  obtain ⟨bs, h1, h2, h3, h4, h5, h6, h7⟩ := h.parts
  have hp := rslice_any L.length a b A n c bs w h1 h2 h5
  rw [slice_more h3 h4 a b hab hl] at hp
  exact hp.mono fun e w' h => h.v
theorem rjoin_list {w : World} {L U : List Bool} {A B : Option Addr} {n m : Nat} (h : Bv w L A n) (hu : Bv w U B m) {c d g : Nat} {N M : Int} (hk : Blk w g 28 #[.int .i64 N, .slice A n c, .int .i64 M, .slice B m d]) (hN : N = (L.length : Int)) (hM : M = (U.length : Int)) (hl : L.length + U.length ≤ 4096) :
    Calls Tryd.prog 36 #[.slice (some ⟨g, 0, none⟩) 2 2] w (ResV w (0, L ++ U)) := by
  subst hN hM
  obtain ⟨bs, h1, h2, h3, h4, h5, h6, h7⟩ := h.parts
  obtain ⟨us, i1, i2, i3, i4, i5, i6, i7⟩ := hu.parts
  have hp := rjoin_any (some ⟨g, 0, none⟩) 2 2 [⟨L.length, A, n, c, bs⟩, ⟨U.length, B, m, d, us⟩] w rfl (by unfold maxLen; omega) (pair_bvs hk) (fun x hx => by
    rcases List.mem_cons.1 hx with rfl | hx
    · exact ⟨h1, h2, h5⟩
    · rcases List.mem_cons.1 hx with rfl | hx
      · exact ⟨i1, i2, i5⟩
      · cases hx)
  rw [join_pair _ _ _ _ _ _ _ _ _ _ h6 i6 (by rw [h7, i7]; exact hl), h7, i7] at hp
  exact hp.mono fun e w' h => h.v

theorem seal_list {w : World} {L U : List Bool} {A B : Option Addr} {n m : Nat} (h : Bv w L A n) (hu : Bv w U B m) (c d : Nat) {N M : Int} (hN : N = (L.length : Int)) (hM : M = (U.length : Int)) (hl : L.length + 24 ≤ 4096) (hT : Tab w) :
    Calls Tryd.prog 29 #[.agg #[.int .i64 N, .slice A n c], .agg #[.int .i64 M, .slice B m d]] w (ResV w (0, sealB U L)) := by
  subst hN hM
  obtain ⟨bs, h1, h2, h3, h4, h5, h6, h7⟩ := h.parts
  obtain ⟨us, i1, i2, i3, i4, i5, i6, i7⟩ := hu.parts
  have hp := seal_any L.length A n c bs U.length B m d us w h1 h2 h5 i1 i2 i5 hT
  have hlt := rem_lt (U ++ L) 0 (by decide)
  have hs : sealS L.length bs U.length us = (0, sealB U L) := by
    unfold sealS putS sealB
    rw [if_pos ⟨i6, h6⟩, if_pos h6, i7, h7, if_pos ⟨by omega, Nat.div_eq_of_lt hlt⟩, if_neg (by omega)]
    rfl
  rw [hs] at hp
  exact hp.mono fun e w' h => h.v
theorem open_list {w : World} {L U : List Bool} {A B : Option Addr} {n m : Nat} (h : Bv w L A n) (hu : Bv w U B m) (c d : Nat) {N M : Int} (hN : N = (L.length : Int)) (hM : M = (U.length : Int)) (hl : 24 ≤ L.length) (hT : Tab w) :
    Calls Tryd.prog 75 #[.agg #[.int .i64 N, .slice A n c], .agg #[.int .i64 M, .slice B m d]] w (ResV w (if rem 0 (U ++ L) = 0 then (0, frontOf L) else (21, []))) := by
  subst hN hM
  obtain ⟨bs, h1, h2, h3, h4, h5, h6, h7⟩ := h.parts
  obtain ⟨us, i1, i2, i3, i4, i5, i6, i7⟩ := hu.parts
  have hp := open_any L.length A n c bs U.length B m d us w h1 h2 h5 i1 i2 i5 hT
  rw [open_more h3 h4 i6 hl, i7] at hp
  exact hp.mono fun e w' h => h.v

theorem rseal_list {w : World} {L U : List Bool} {A B : Option Addr} {n m : Nat} (h : Bv w L A n) (hu : Bv w U B m) (c d : Nat) {N M : Int} (hN : N = (L.length : Int)) (hM : M = (U.length : Int)) (hl : L.length + 24 ≤ 4096) :
    Calls Tryd.prog 34 #[.agg #[.int .i64 N, .slice A n c], .agg #[.int .i64 M, .slice B m d]] w (ResV w (0, sealB U L)) := by
  subst hN hM
  obtain ⟨bs, h1, h2, h3, h4, h5, h6, h7⟩ := h.parts
  obtain ⟨us, i1, i2, i3, i4, i5, i6, i7⟩ := hu.parts
  have hp := rseal_any L.length A n c bs U.length B m d us w h1 h2 h5 i1 i2 i5
  have hlt := rem_lt (U ++ L) 0 (by decide)
  have hs : sealS L.length bs U.length us = (0, sealB U L) := by
    unfold sealS putS sealB
    rw [if_pos ⟨i6, h6⟩, if_pos h6, i7, h7, if_pos ⟨by omega, Nat.div_eq_of_lt hlt⟩, if_neg (by omega)]
    rfl
  rw [hs] at hp
  exact hp.mono fun e w' h => h.v
theorem ropen_list {w : World} {L U : List Bool} {A B : Option Addr} {n m : Nat} (h : Bv w L A n) (hu : Bv w U B m) (c d : Nat) {N M : Int} (hN : N = (L.length : Int)) (hM : M = (U.length : Int)) (hl : 24 ≤ L.length) :
    Calls Tryd.prog 54 #[.agg #[.int .i64 N, .slice A n c], .agg #[.int .i64 M, .slice B m d]] w (ResV w (if rem 0 (U ++ L) = 0 then (0, frontOf L) else (21, []))) := by
  subst hN hM
  obtain ⟨bs, h1, h2, h3, h4, h5, h6, h7⟩ := h.parts
  obtain ⟨us, i1, i2, i3, i4, i5, i6, i7⟩ := hu.parts
  have hp := ropen_any L.length A n c bs U.length B m d us w h1 h2 h5 i1 i2 i5
  rw [open_more h3 h4 i6 hl, i7] at hp
  exact hp.mono fun e w' h => h.v

theorem bits_list (c : CS) {w : World} (hm : mayC c 8 = true) (hT : WTab w) : Calls Tryd.prog 27 #[.agg c.cells] w (ResV w (0, bitsOf c)) := by
  have hp := bitsC_any c w hT
  have hs : bitsC c = (0, bitsOf c) := by unfold bitsC; rw [if_pos hm]
  rw [hs] at hp
  exact hp.mono fun e w' h => h.v
theorem bits_not (c : CS) {w : World} (hm : ¬ mayC c 8 = true) (hT : WTab w) : Calls Tryd.prog 27 #[.agg c.cells] w (ResV w (40, [])) := by
  have hp := bitsC_any c w hT
  have hs : bitsC c = (40, []) := by unfold bitsC; rw [if_neg hm]
  rw [hs] at hp
  exact hp.mono fun e w' h => h.v
theorem read_list {w : World} {L : List Bool} {A : Option Addr} {n : Nat} (h : Bv w L A n) (c : Nat) {N : Int} (hN : N = (L.length : Int)) (hl : L.length = 24) (hT : WTab w) :
    Calls Tryd.prog 76 #[.agg #[.int .i64 N, .slice A n c]] w (ResC w (if mayC (fieldsOf L) 8 = true then (0, fieldsOf L) else (40, zeroC))) := by
  subst hN
  obtain ⟨bs, h1, h2, h3, h4, h5, h6, h7⟩ := h.parts
  have hp := readC_any L.length A n c bs w h1 h2 h5 hT
  have hs : readC L.length bs = if mayC (fieldsOf L) 8 = true then (0, fieldsOf L) else (40, zeroC) := by
    unfold readC
    rw [if_pos h6, if_pos (by omega), h7]
  rw [hs] at hp
  exact hp

theorem rbits_list (c : CS) {w : World} (hm : mayC c 8 = true) : Calls Tryd.prog 32 #[.agg c.cells] w (ResV w (0, bitsOf c)) := by
  have hp := rbitsC_any c w
  have hs : bitsC c = (0, bitsOf c) := by unfold bitsC; rw [if_pos hm]
  rw [hs] at hp
  exact hp.mono fun e w' h => h.v
theorem rbits_not (c : CS) {w : World} (hm : ¬ mayC c 8 = true) : Calls Tryd.prog 32 #[.agg c.cells] w (ResV w (40, [])) := by
  have hp := rbitsC_any c w
  have hs : bitsC c = (40, []) := by unfold bitsC; rw [if_neg hm]
  rw [hs] at hp
  exact hp.mono fun e w' h => h.v
theorem rread_list {w : World} {L : List Bool} {A : Option Addr} {n : Nat} (h : Bv w L A n) (c : Nat) {N : Int} (hN : N = (L.length : Int)) (hl : L.length = 24) :
    Calls Tryd.prog 80 #[.agg #[.int .i64 N, .slice A n c]] w (ResC w (if mayC (fieldsOf L) 8 = true then (0, fieldsOf L) else (40, zeroC))) := by
  subst hN
  obtain ⟨bs, h1, h2, h3, h4, h5, h6, h7⟩ := h.parts
  have hp := rreadC_any L.length A n c bs w h1 h2 h5
  have hs : readC L.length bs = if mayC (fieldsOf L) 8 = true then (0, fieldsOf L) else (40, zeroC) := by
    unfold readC
    rw [if_pos h6, if_pos (by omega), h7]
  rw [hs] at hp
  exact hp
end Go.Proofs.YtcfbeelljhjnoaaDoor
