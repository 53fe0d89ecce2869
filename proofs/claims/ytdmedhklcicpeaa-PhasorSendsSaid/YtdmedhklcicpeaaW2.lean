/-
  The program's Encode. Conditions: bytes that can be read.
-/
import Derived.Test.YtdmedhklcicpeaaW1
import Derived.Deep.RegionHeld3
import Derived.Deep.RegionLawGrows
import Derived.Deep.AppendLies
import Derived.Laws.AppendOwnNone
namespace Go.Proofs.Ytdmedhklcicpeaa
open Go.RowKit

theorem mix_get (L : List Sp) (f : Sp → Sp) (k j : Nat) (hk : k ≤ L.length) (hj : j < L.length) : ((L.map f).take k ++ L.drop k)[j]?.getD (0, 0) = if j < k then f (L[j]?.getD (0, 0)) else L[j]?.getD (0, 0) := by
  have hlen : ((L.map f).take k).length = k := by simp; omega
  by_cases h : j < k
  · rw [if_pos h, List.getElem?_append_left (by omega), List.getElem?_take_of_lt h, List.getElem?_map, List.getElem?_eq_getElem hj]; rfl
  · rw [if_neg h, List.getElem?_append_right (by omega), hlen, List.getElem?_drop, show k + (j - k) = j by omega]
theorem mix_length (L : List Sp) (f : Sp → Sp) (k : Nat) (hk : k ≤ L.length) : ((L.map f).take k ++ L.drop k).length = L.length := by simp; omega
theorem CRow.step {cs : Array Value} {L : List Sp} {f : Sp → Sp} {k : Nat} (h : CRow cs ((L.map f).take k ++ L.drop k)) (hk : k < L.length) (hs : L.length ≤ cs.size) {a b : Nat} (ha : IsF a (f (L[k]?.getD (0, 0))).1) (hb : IsF b (f (L[k]?.getD (0, 0))).2) :
    CRow (cs.setIfInBounds k (.complex .f64 a b)) ((L.map f).take (k + 1) ++ L.drop (k + 1)) := by
  intro j hj
  rw [mix_length _ _ _ (by omega)] at hj
  rw [mix_get _ _ _ _ (by omega) hj]
  by_cases hjk : j = k
  · subst hjk
    rw [if_pos (by omega)]
    exact ⟨a, b, by rw [Array.getElem?_setIfInBounds_self_of_lt (by omega)], ha, hb⟩
  · obtain ⟨x, y, h1, h2⟩ := h j (by rw [mix_length _ _ _ (by omega)]; exact hj)
    rw [mix_get _ _ _ _ (by omega) hj] at h2
    refine ⟨x, y, by rw [Array.getElem?_setIfInBounds_ne (by omega)]; exact h1, ?_⟩
    by_cases hlt : j < k
    · rw [if_pos hlt] at h2; rw [if_pos (by omega)]; exact h2
    · rw [if_neg hlt] at h2; rw [if_neg (by omega)]; exact h2
theorem own_crow {w : World} {base g n cap : Nat} {vs : List Value} {l : List Sp} (h : w.ownsRow base 63 1 (.slice (some ⟨g, 0, none⟩) n cap) n vs) (hv : VRow vs l) : ∃ cs : Array Value, Blk w g 63 cs ∧ cs.size = cap ∧ n = l.length ∧ n ≤ cap ∧ CRow cs l ∧ base ≤ g := by
  rcases h.2 with ⟨h1, _⟩ | ⟨g', cap', cur, h1, hb, hh, hc, _, hsz, htk⟩
  · cases h1
  · injection h1 with h1 _ h3
    injection h1 with h1
    injection h1 with h1
    subst h1; subst h3
    have hl := h.1
    rw [Nat.mul_one] at hl htk hsz
    refine ⟨cur, hh, hsz, by rw [← hv.1]; exact hl.symm, hc, fun j hj => ?_, hb⟩
    obtain ⟨a, b, e, f⟩ := hv.2 j hj
    refine ⟨a, b, ?_, f⟩
    rw [← htk, List.getElem?_take_of_lt (by rw [← hl, hv.1]; exact hj), Array.getElem?_toList] at e
    exact e
theorem put_len (N : Nat) (h : N ≤ 4095) : putS 0 [] N 12 = (0, numBits N 12) := by
  unfold putS
  have h1 : N / 2 ^ (12 : Int).toNat = 0 := Nat.div_eq_of_lt (by change N < 2 ^ 12; omega)
  rw [if_pos (by decide), if_pos ⟨by decide, h1⟩, if_neg (by decide)]
  rfl
theorem numBits_zero (k : Nat) : numBits 0 k = List.replicate k false := by
  unfold numBits
  apply List.ext_getElem
  · simp
  · intro i h1 h2; simp
theorem put_pad {N : Int} {bs : List UInt8} (hg : goodB N bs = true) (h : N ≤ 4095) : putS N bs 0 (N.tmod 2) = (0, listOf N bs ++ List.replicate ((listOf N bs).length % 2) false) := by
  obtain ⟨h0, h1, _⟩ := (good_iff N bs).1 hg
  have e1 : N.tmod 2 = N % 2 := Int.tmod_eq_emod_of_nonneg h0
  unfold putS
  rw [if_pos hg, e1, if_pos ⟨by omega, by simp⟩, if_neg (by omega), numBits_zero, listOf_length]
  congr 3
  omega
theorem enc_small (l : List Bool) (amp : Int) (h0 : 1 ≤ amp) (h1 : amp ≤ 65536) : ∀ s ∈ encL l amp, s.1.natAbs < 2 ^ 53 ∧ s.2.natAbs < 2 ^ 53 := by
  intro s hs
  obtain ⟨t, ht, rfl⟩ := List.mem_map.1 hs
  have hu : t.1.natAbs ≤ 1 ∧ t.2.natAbs ≤ 1 := by
    rcases List.mem_append.1 ht with ht | ht
    · rcases List.mem_append.1 ht with ht | ht
      · exact pre_unit t ht
      · exact pairs_unit _ t ht
    · exact pairs_unit _ t ht
  have a1 : (t.1 * amp).natAbs ≤ 1 * 65536 := by rw [Int.natAbs_mul]; exact Nat.mul_le_mul hu.1 (by omega)
  have a2 : (t.2 * amp).natAbs ≤ 1 * 65536 := by rw [Int.natAbs_mul]; exact Nat.mul_le_mul hu.2 (by omega)
  unfold scale
  dsimp only
  omega

theorem blk_news {w : World} {g : Nat} {t : TypeId} {cs : Array Value} (h : Blk w g t cs) : ∀ b, some (⟨g, 0, none⟩ : Addr) = some b → ∀ j u, cs.toList[j]? = some u → w.cell? (b.add j) = some u := fun b hb => by
  cases hb; exact World.news_of_block h
/-- append(s, x...) where both rows are the call's own, x may be nil. -/
theorem wpList_append_row {P : Program} (w : World) {ops : Array Oper} {rest : List Oper} {o : Oper} {a : Act} {Q : Exit → Act → World → Prop} (hgd : o.guard = none) (s x : Operand) (t : TypeId)
    (ho : o.op = .call { callee := .builtin .append, args := #[s, x], argTypes := #[t, t] })
    (base base2 : Nat) (e : TypeId) (i : TypeInfo) (z : Value) (size bytes : Nat) (ht : P.underlying t = some (.slice e)) (hi : P.info? e = some i) (hz : i.zero = some z)
    (hsize : i.size = size) (hby : i.bytes = bytes) (hzs : z.cells.size = size) (hsz : 0 < size)
    (v u : Value) (n m : Nat) (xs ys : List Value) (hs : a.eval s = v) (hx : a.eval x = u) (hown : w.ownsRow base e size v n xs) (hownu : w.ownsRow base2 e size u m ys) (h1 : ∀ y ∈ ys, y.oneCell' = true)
    (h63 : n + m ≤ maxLen) (hbytes : (n + m) * bytes ≤ 140737488355328) (hbase : base ≤ w.heap.size)
    (h : ∀ v' w', w'.ownsRow base e size v' (n + m) (xs ++ ys) → w.grownBy w' v.ownBlock → wpList P ops Q rest (a.put o.dst v') w') : wpList P ops Q (o :: rest) a w := by
  rcases hownu.2 with ⟨hu, hm⟩ | ⟨g, cap, cur, hu, _⟩
  · subst hm
    have hy : ys = [] := List.eq_nil_of_length_eq_zero (by have := hownu.1; omega)
    subst hy
    refine wpList_append_own_none hgd s x t ho base e i size ht hi v n xs hs hown (hx.trans hu) (h v w ?_ (World.grownBy.refl w _))
    rw [List.append_nil]; exact hown
  · refine wpList_append_own w hgd s x t ho base e i z size bytes ht hi hz hsize hby hzs hsz v n xs hs hown ⟨g, 0, none⟩ m cap ys (hx.trans hu) hownu.1 (fun j y hj => hownu.cells (g := g) (by rw [hu]; rfl) j y hj) h1 h63 hbytes hbase ?_
    intro v' w' k1 k2 _
    exact h v' w' k1 k2

set_option maxRecDepth 8000 in
set_option maxHeartbeats 2000000 in
theorem encode_any (N amp : Int) (A : Option Addr) (n c : Nat) (bs : List UInt8) (w : World) (hn : n = bs.length) (hm : n ≤ maxLen) (hA : Byt w.heap.size w A bs) :
    Calls Try.prog 10 #[.agg #[.int .i64 N, .slice A n c], .int .i64 amp] w (ResS w (encodeS N bs amp)) := by
  have hBb : Below w.heap.size w (w.alloc (.cells #[.int .i64 N, .slice A n c] 24)) := (Below.refl _ _).alloc (Nat.le_refl _) _
  have hck := check_any N A n c bs _ hn hm (hA.on hBb)
  have HA := Lib.hid hA; have HN := Lib.hid hn; have HM := Lib.hid hm
  clear hA hn hm
  unfold encodeS
  by_cases hg : goodB N bs = true
  · rw [if_pos hg]
    rw [chk_yes hg] at hck
    have HCK := Lib.hid hck; clear hck
    by_cases ha : 1 ≤ amp ∧ amp ≤ 65536
    · rw [if_pos ha]
      obtain ⟨ha0, ha1⟩ := ha
      by_cases hN : N ≤ 4095
      · rw [if_pos hN]
        obtain ⟨hN0, _⟩ := (good_iff N bs).1 hg
        obtain ⟨M, rfl⟩ : ∃ M : Nat, N = (M : Int) := ⟨N.toNat, by omega⟩
        have hM : M ≤ 4095 := by omega
        have hput1 := fun W => put_any 0 12 M none 0 0 [] W rfl (by decide) (fun h => absurd rfl h) (by omega)
        rw [put_len M hM] at hput1
        obtain ⟨l1, hl1e⟩ : ∃ l, l = numBits M 12 := ⟨_, rfl⟩
        rw [← hl1e] at hput1
        have hput2 := fun W (hB : Below w.heap.size w W) => put_any (M : Int) ((M : Int).tmod 2) 0 A n c bs W HN.out HM.out (HA.out.on hB) (by omega)
        rw [put_pad hg hN] at hput2
        obtain ⟨l2, hl2e⟩ : ∃ l, l = listOf (M : Int) bs ++ List.replicate ((listOf (M : Int) bs).length % 2) false := ⟨_, rfl⟩
        rw [← hl2e] at hput2
        have hll : (listOf (M : Int) bs).length = M := by rw [listOf_length]; omega
        have hev : l2.length % 2 = 0 := by rw [hl2e, List.length_append, List.length_replicate]; omega
        have hl2l : l2.length ≤ 4096 := by rw [hl2e, List.length_append, List.length_replicate]; omega
        have hl1l : l1.length = 12 := by rw [hl1e, numBits_length]
        have hpp1 : pairsS 1 l2 = pairsS 1 (listOf (M : Int) bs) := by rw [hl2e, pairs_pad]
        have henc : encL (listOf (M : Int) bs) amp = (pre ++ pairsS 1 l1 ++ pairsS 1 l2).map (scale amp) := by unfold encL; rw [hpp1, hll, hl1e]
        have hsml := enc_small (listOf (M : Int) bs) amp ha0 ha1
        rw [henc] at hsml ⊢
        have htm : IntKind.i64.wrap ((M : Int).tmod 2) = (M : Int).tmod 2 := IntWalk.i64_in _ (by rw [Int.tmod_eq_emod_of_nonneg (by omega)]; omega)
        have HP1 := Lib.hid hput1; have HP2 := Lib.hid hput2; have HEV := Lib.hid hev; have HL2 := Lib.hid hl2l; have HL1 := Lib.hid hl1l
        have HSML := Lib.hid hsml
        clear hput1 hput2 hl1e hl2e hll hev hl2l hl1l hpp1 henc hsml hg
        have hd0 : decide (amp < 1) = false := by simp; omega
        have hd1 : decide (65536 < amp) = false := by simp; omega
        have hd2 : decide (4095 < (M : Int)) = false := by simp; omega
        have hd3 : decide (4095 < M) = false := by simp; omega
        have hu64 : IntKind.u64.wrap (M : Int) = (M : Int) := IntWalk.u64_in _ (by omega)
        go_enter Try.func10, Try.ntmps10
        go_wp2_with fail
        refine HCK.out.mono ?_
        rintro e w1 ⟨rfl, hB1⟩
        have hbx := (Blk.new w 24 #[.int .i64 (M : Int), .slice A n c]).below hB1 (by simp)
        obtain ⟨hb0, hb1, _⟩ := hbx.two
        have hBw1 := hBb.trans (hB1.mono (by simp))
        have hs1 := hB1.size
        rw [World.size_alloc] at hs1
        have hw1 : w.heap.size < w1.heap.size := by omega
        go_wp2_with fail
        refine (HP1.out _).mono ?_
        rintro e w2 ⟨A1, n1, c1, bs1, rfl, hn1, his1, hl1, hA1, hB2, _⟩
        have hbx2 := hbx.below hB2 hbx.lt
        obtain ⟨hc0, hc1, _⟩ := hbx2.two
        have hs2 := hB2.size
        have hw2 : w.heap.size < w2.heap.size := by omega
        have hBw2 := hBw1.trans (hB2.mono hBw1.size)
        have HN1 := Lib.hid hn1; have HI1 := Lib.hid his1; have HLL1 := Lib.hid hl1
        clear hn1 his1 hl1
        dsimp only at *
        go_wp2_with fail
        refine (HP2.out _ (hBw2.alloc hBw2.size _)).mono ?_
        rintro e w3 ⟨A2, n2, c2, bs2, rfl, hn2, his2, hl2, hA2, hB3, _⟩
        have hbx3 := (hbx2.alloc _).below hB3 (by simp; omega)
        have hby3 := (Blk.new w2 24 #[.int .i64 (l1.length : Int), .slice A1 n1 c1]).below hB3 (by simp)
        have hs3 := hB3.size
        rw [World.size_alloc] at hs3
        have hw3 : w2.heap.size < w3.heap.size := by omega
        have hBw3 := (hBw2.alloc hBw2.size _).trans (hB3.mono (by simp; have := hBw2.size; omega))
        have hA13 := (hA1.on ((Below.refl _ _).alloc (Nat.le_refl _) _)).on hB3
        have HN2 := Lib.hid hn2; have HI2 := Lib.hid his2; have HLL2 := Lib.hid hl2
        clear hn2 his2 hl2
        dsimp only at *
        go_wp2_with fail
        refine (preamble_any _).mono ?_
        rintro e w4 ⟨rfl, hB4⟩
        have hby4 := (hby3.alloc _).below hB4 (by simp; omega)
        have hbz4 := (Blk.new w3 24 #[.int .i64 (l2.length : Int), .slice A2 n2 c2]).below hB4 (by simp)
        have hs4 := hB4.size
        rw [World.size_alloc] at hs4
        have hw4 : w3.heap.size < w4.heap.size := by omega
        have hBw4 := (hBw3.alloc hBw3.size _).trans (hB4.mono (by simp; have := hBw3.size; omega))
        have hA14 := (hA13.on ((Below.refl _ _).alloc (Nat.le_refl _) _)).on hB4
        have hA24 := (hA2.on ((Below.refl _ _).alloc (Nat.le_refl _) _)).on hB4
        clear hB1 hB2 hB3 hB4 hBw1 hBw2 hBw3 hA1 hA13 hA2 hby3 hbx hbx2 hbx3 hb0 hb1 hc0 hc1
        unfold preC
        go_wp2
        change Code.wp _ _ _ _ (w4.alloc (.cells preC 64))
        obtain ⟨w5, hw5⟩ : ∃ w5, w5 = w4.alloc (.cells preC 64) := ⟨_, rfl⟩
        rw [← hw5]
        have hBn : Below w4.heap.size w4 w5 := by rw [hw5]; exact (Below.refl _ _).alloc (Nat.le_refl _) _
        have hbp5 : Blk w5 w4.heap.size 64 preC := by rw [hw5]; exact Blk.new w4 _ _
        have hs5 : w5.heap.size = w4.heap.size + 1 := by rw [hw5]; simp
        clear hw5
        have hby5 := hby4.below hBn (by omega)
        have hbz5 := hbz4.below hBn (by omega)
        have hA15 := hA14.on hBn
        have hA25 := hA24.on hBn
        have hBw5 := hBw4.trans (hBn.mono hBw4.size)
        clear hby4 hbz4 hA14 hA24 hBw4 hBn
        have hpt1 := points_any l1 A1 n1 c1 bs1 w5.drew HN1.out HI1.out HLL1.out (by rw [HL1.out]) hA15
        have hm1 : (pvs l1).length = 6 := by rw [pvs_length, HL1.out]
        rw [hm1] at hpt1
        have HPT1 := Lib.hid hpt1; have HM1 := Lib.hid hm1
        clear hpt1 hm1
        obtain ⟨i0, hi, hz0, hz1, hz2⟩ := info_parts Try.infoC
        obtain ⟨hy0, hy1, _⟩ := hby5.two
        have hBd : Below w5.heap.size w5 w5.drew := (Below.refl _ _).drew
        have hkeep : ∀ W : World, Below w5.heap.size w5 W → W.cell? ⟨w2.heap.size, 0, none⟩ = some (.int .i64 (l1.length : Int)) ∧ W.cell? ⟨w2.heap.size, 1, none⟩ = some (.slice A1 n1 c1) := fun W hB => by
          obtain ⟨k0, k1, _⟩ := (hby5.below hB (by omega)).two
          exact ⟨k0, k1⟩
        have HKP := Lib.hid hkeep; clear hkeep
        go_region_held3 (fun w' => w'.cell? ⟨w2.heap.size, 0, none⟩ = some (.int .i64 (l1.length : Int)) ∧ w'.cell? ⟨w2.heap.size, 1, none⟩ = some (.slice A1 n1 c1)) (first | exact HKP.out _ hBd | exact HKP.out _ hB6 | exact HKP.out _ hB7)
          (first
            | (refine step_append_grows rfl (.tmp 42) (.tmp 44) 66 rfl 63 i0 (.complex .f64 0 0) 1 16 Try.underlying66 hi hz0 hz1 hz2 rfl (by decide) (some ⟨w4.heap.size, 0, none⟩) 8 8 preC.toList rfl (by simp) rfl hpre6 ⟨g6, 0, none⟩ 6 cap6 (pvs l1) rfl (by rw [HM1.out]) (fun j u hj => hown6.cells (g := g6) rfl j u hj) (pvs_one l1) (by decide) (by unfold maxLen; decide) (by decide) ?_; intro v' w7 hown7 hgrow7; have hB7 : Below w5.heap.size w5 w7 := hB6.grown hgrow7 hB6.size (fun k hk => by cases hk); obtain ⟨g7, cap7, rfl, hg7, hlt7⟩ := hown7.form (by omega))
            | (go_at_call 37; refine HPT1.out.mono ?_; rintro e w6 ⟨v6, rfl, hown6, hB6'⟩; have hB6 : Below w5.heap.size w5 w6 := hBd.trans hB6'; obtain ⟨g6, cap6, rfl, hg6, hlt6⟩ := hown6.form (by decide); have hpre6 := blk_news (hbp5.below hB6 (by omega))))
        have hs7 := hB7.size
        have hbz7 := hbz5.below hB7 (by omega)
        obtain ⟨hz00, hz01, _⟩ := hbz7.two
        have hA27 := hA25.on hB7
        have hBw7 := hBw5.trans (hB7.mono hBw5.size)
        have hw6 := hB6.size
        have hpt2 := points_any l2 A2 n2 c2 bs2 w7 HN2.out HI2.out HLL2.out HEV.out hA27
        obtain ⟨m2, hm2⟩ : ∃ m, m = (pvs l2).length := ⟨_, rfl⟩
        rw [← hm2] at hpt2
        have hm2b : m2 ≤ 2048 := by rw [hm2, pvs_length]; have := HLL2.out; omega
        have HPT2 := Lib.hid hpt2; have HM2 := Lib.hid hm2
        have hw7 : w3.heap.size < w7.heap.size := by omega
        have HOWN := Lib.hid (own_mono hown7 (Nat.le_trans hBw5.size hw6))
        clear hpt2 hm2 hown6 hown7 hB6' hgrow7 hbz5 hby5 hA15 hA25 hA27 hBw5 hB6 hg6 hg7 hlt6 hpre6 hbp5 hy0 hy1
        go_wp2_with fail
        refine HPT2.out.mono ?_
        rintro e w8 ⟨v8, rfl, hown8, hB8⟩
        have hrow8 := own_on HOWN.out hB8
        have hBw8 := hBw7.trans (hB8.mono hBw7.size)
        have HO8 := Lib.hid hown8; have HR8 := Lib.hid hrow8
        clear hown8 hrow8
        go_wp2_with (at_builtin; refine wpList_append_row _ rfl _ _ 66 rfl w.heap.size w7.heap.size 63 i0 (.complex .f64 0 0) 1 16 Try.underlying66 hi hz0 hz1 hz2 rfl (by decide) (.slice (some ⟨g7, 0, none⟩) (8 + 6) cap7) v8 (8 + 6) m2 _ _ rfl rfl HR8.out HO8.out (pvs_one l2) (by unfold maxLen; omega) (by omega) hBw8.size ?_; intro v9 w9 hown9 hgrow9; obtain ⟨n9, hn9⟩ : ∃ n, n = 8 + 6 + m2 := ⟨_, rfl⟩; rw [← hn9] at hown9; have HN9 := Lib.hid hn9; obtain ⟨g9, cap9, rfl, hg9, hlt9⟩ := hown9.form (by omega); clear hn9)
        have hn9b : n9 ≤ 65536 := by have := HN9.out; omega
        obtain ⟨cs0, hcs, hcap, hnL, hnc, hrow, _⟩ := own_crow hown9 ((preC_vrow.append (pvs_row l1)).append (pvs_row l2))
        have hBw9 : Below w.heap.size w w9 := hBw8.grown hgrow9 hBw8.size (fun k hk => by
          have h7 : w.heap.size ≤ g7 := own_fresh HR8.out _ rfl
          have h8 : g7 = k := by simpa [Value.ownBlock] using hk
          omega)
        have hunit : ∀ s ∈ pre ++ pairsS 1 l1 ++ pairsS 1 l2, s.1.natAbs ≤ 2 ^ 24 ∧ s.2.natAbs ≤ 2 ^ 24 := by
          intro s hs
          have hu : s.1.natAbs ≤ 1 ∧ s.2.natAbs ≤ 1 := by
            rcases List.mem_append.1 hs with hs | hs
            · rcases List.mem_append.1 hs with hs | hs
              · exact pre_unit s hs
              · exact pairs_unit _ s hs
            · exact pairs_unit _ s hs
          omega
        generalize pre ++ pairsS 1 l1 ++ pairsS 1 l2 = L at *
        have HNL := Lib.hid hnL; have HROW := Lib.hid hrow; have HU := Lib.hid hunit
        have hamp : IsF (floatOfInt .f64 amp) amp := isF_int amp (by omega)
        have HAMP := Lib.hid hamp
        clear hnL hrow hunit hamp hown9 hgrow9 HR8 HO8 HOWN HPT2 HPT1 HP1 HP2 HCK HKP HEV HL1 HL2 HI1 HI2 HLL1 HLL2 hbz7 hB8 hB7 hBw7 hBw8 hBd
        go_loopw [52] (fun i wr => ∃ (k : Nat) (cs : Array Value), k ≤ n9 ∧ i = .int .i64 k ∧ Blk wr g9 63 cs ∧ cs.size = cap9 ∧ CRow cs ((L.map (scale amp)).take k ++ L.drop k) ∧ Below w.heap.size w wr)
          (fun i _ => n9 - (intOf i).toNat)
        case atStart => exact ⟨0, cs0, by omega, rfl, hcs, hcap, HROW.out, hBw9⟩
        case round =>
          obtain ⟨k, cs, hk, rfl, hblk, hsz, hrow, hBr⟩ := hrel
          have hwr := hblk.lt
          by_cases hlt : k < n9
          · have hkl : k < L.length := by have := HNL.out; omega
            obtain ⟨x, y, hc0, hx, hy⟩ := hrow k (by rw [mix_length _ _ _ (by omega)]; exact hkl)
            rw [mix_get _ _ _ _ (by omega) hkl, if_neg (by omega)] at hx hy
            have hun := HU.out (L[k]?.getD (0, 0)) (by rw [List.getElem?_eq_getElem hkl]; exact List.getElem_mem hkl)
            obtain ⟨re, im, hmul, hre, him⟩ := isC_mul hx hy HAMP.out isF_zero hun.1 hun.2 (by omega) (by decide)
            have e1 : (L[k]?.getD (0, 0)).1 * amp - (L[k]?.getD (0, 0)).2 * 0 = (scale amp (L[k]?.getD (0, 0))).1 := by simp [scale]
            have e2 : (L[k]?.getD (0, 0)).1 * 0 + (L[k]?.getD (0, 0)).2 * amp = (scale amp (L[k]?.getD (0, 0))).2 := by simp [scale]
            rw [e1] at hre
            rw [e2] at him
            have hstep := hrow.step hkl (by have := HNL.out; omega) hre him
            have hop := fun t w1 => run_complex_mul (P := Try.prog) w1 t x y (floatOfInt .f64 amp) 0 re im hmul
            have hd0 := (hblk.cell k).trans hc0
            have hf0 := hblk.frozen k
            have HST := Lib.hid hstep
            clear hstep e1 e2 hre him hmul hun hx hy hc0 hrow hkl
            go_wp2_with (simp only [hop])
            go_roundw
            case rel =>
              refine ⟨k + 1, _, by omega, by go_num, hblk.set_ k (.complex .f64 re im), by simpa using hsz, HST.out, hBr.setCell hg9 _⟩
            case measure => simp [intOf]; omega
          · obtain rfl : k = n9 := by omega
            have hfull : (L.map (scale amp)).take k ++ L.drop k = L.map (scale amp) := by
              rw [List.take_of_length_le (by rw [List.length_map]; have := HNL.out; omega), List.drop_of_length_le (by have := HNL.out; omega), List.append_nil]
            rw [hfull] at hrow
            have hsm := samples_any (some ⟨g9, 0, none⟩) k cap9 (L.map (scale amp)) wr (by rw [List.length_map]; exact HNL.out) (by omega) (cxs_of_blk hblk hrow) HSML.out
            have HSM := Lib.hid hsm
            clear hrow hsm hfull
            go_wp2_with fail
            refine HSM.out.mono ?_
            rintro e w2' ⟨g, rfl, hg, hsmp, hB2'⟩
            have HS := Lib.hid hsmp; clear hsmp
            go_wp2
            go_ret2
            exact ⟨_, _, _, rfl, by rw [List.length_map]; exact HNL.out, Nat.le_refl _, HS.out, hBr.trans (hB2'.mono hBr.size), fun a ha _ => by cases ha; exact Nat.le_trans hBr.size hg⟩
      · rw [if_neg hN]
        have hd0 : decide (amp < 1) = false := by simp; omega
        have hd1 : decide (65536 < amp) = false := by simp; omega
        have hd2 : decide (4095 < N) = true := by simp; omega
        go_enter Try.func10, Try.ntmps10
        go_wp2_with fail
        refine HCK.out.mono ?_
        rintro e w1 ⟨rfl, hB1⟩
        have hbx := (Blk.new w 24 #[.int .i64 N, .slice A n c]).below hB1 (by simp)
        obtain ⟨hb0, hb1, _⟩ := hbx.two
        have hBw1 := hBb.trans (hB1.mono (by simp))
        go_wp2
        go_ret2
        exact ⟨none, 0, 0, rfl, rfl, Nat.le_refl _, fun h => absurd rfl h, hBw1, fun a ha => by cases ha⟩
    · rw [if_neg ha]
      go_enter Try.func10, Try.ntmps10
      go_wp2_with fail
      refine HCK.out.mono ?_
      rintro e w1 ⟨rfl, hB1⟩
      have hBw1 := hBb.trans (hB1.mono (by simp))
      by_cases h1 : amp < 1
      · have hd0 : decide (amp < 1) = true := by simpa using h1
        clear ha
        go_wp2
        go_ret2
        exact ⟨none, 0, 0, rfl, rfl, Nat.le_refl _, fun h => absurd rfl h, hBw1, fun a ha => by cases ha⟩
      · have hd0 : decide (amp < 1) = false := by simpa using h1
        have hd1 : decide (65536 < amp) = true := by simp; omega
        clear ha
        go_wp2
        go_ret2
        exact ⟨none, 0, 0, rfl, rfl, Nat.le_refl _, fun h => absurd rfl h, hBw1, fun a ha => by cases ha⟩
  · rw [if_neg hg]
    rw [Bool.not_eq_true] at hg
    rw [chk_no hg] at hck
    have HCK := Lib.hid hck; clear hck
    go_enter Try.func10, Try.ntmps10
    go_wp2_with fail
    refine HCK.out.mono ?_
    rintro e w1 ⟨rfl, hB1⟩
    have hBw1 := hBb.trans (hB1.mono (by simp))
    go_wp2
    go_ret2
    exact ⟨none, 0, 0, rfl, rfl, Nat.le_refl _, fun h => absurd rfl h, hBw1, fun a ha => by cases ha⟩
end Go.Proofs.Ytdmedhklcicpeaa
