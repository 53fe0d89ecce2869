/-
  The document's Encode. Condition: bytes that can be read.
-/
import Derived.Test.YtdmedhklcicpeaaS4
import Derived.Test.YtdmedhklcicpeaaS5
import Derived.Test.YtdmedhklcicpeaaW2
import Derived.Test.YtdmedhklcicpeaaF4
import Derived.Test.YtdmedhklcicpeaaW8
namespace Go.Proofs.Ytdmedhklcicpeaa
open Go.RowKit

/-- append(s, x...) at a step of a region that draws, both rows the call's own, x may be nil. -/
theorem step_append_row {P : Program} (w : World) {ops : Array Oper} {o : Oper} {a : Act} {K : Act → World → Prop} {Q : Exit → Act → World → Prop} {E : Prop} (hgd : o.guard = none) (s x : Operand) (t : TypeId)
    (ho : o.op = .call { callee := .builtin .append, args := #[s, x], argTypes := #[t, t] })
    (base base2 : Nat) (e : TypeId) (i : TypeInfo) (z : Value) (size bytes : Nat) (ht : P.underlying t = some (.slice e)) (hi : P.info? e = some i) (hz : i.zero = some z)
    (hsize : i.size = size) (hby : i.bytes = bytes) (hzs : z.cells.size = size) (hsz : 0 < size)
    (v u : Value) (n m : Nat) (xs ys : List Value) (hs : a.eval s = v) (hx : a.eval x = u) (hown : w.ownsRow base e size v n xs) (hownu : w.ownsRow base2 e size u m ys) (h1 : ∀ y ∈ ys, y.oneCell' = true)
    (h63 : n + m ≤ maxLen) (hbytes : (n + m) * bytes ≤ 140737488355328) (hbase : base ≤ w.heap.size)
    (h : ∀ v' w', w'.ownsRow base e size v' (n + m) (xs ++ ys) → w.grownBy w' v.ownBlock → K (a.put o.dst v') w') :
    if Region.wanted o (yielded ops a.tmps) = true then Oper.wp P o a w K Q else E := by
  have hw : Region.wanted o (yielded ops a.tmps) = true := by simp [Region.wanted, hgd]
  rw [if_pos hw]
  rcases hownu.2 with ⟨hu, hm⟩ | ⟨g, cap, cur, hu, _⟩
  · subst hm
    have hy : ys = [] := List.eq_nil_of_length_eq_zero (by have := hownu.1; omega)
    subst hy
    have hx' := hx.trans hu
    have hrun := run_append_owned_none (P := P) (w := w) base t o.type e i size ht hi v n xs hown
    unfold Oper.wp
    simp [execOp, ho, resolve, invoke, builtin, hs, hx', hrun, Result.andThen]
    refine h v w ?_ (World.grownBy.refl w _)
    rw [List.append_nil]; exact hown
  · have hx' := hx.trans hu
    obtain ⟨v', w', hrun, r1, r2, _⟩ := run_append_own (P := P) w base t o.type e i z size bytes ht hi hz hsize hby hzs hsz v n xs hown ⟨g, 0, none⟩ m cap ys hownu.1 (fun j y hj => hownu.cells (g := g) (by rw [hu]; rfl) j y hj) h1 h63 hbytes hbase
    unfold Oper.wp
    simp [execOp, ho, resolve, invoke, builtin, hs, hx', hrun, Result.andThen]
    exact h v' w' r1 r2

theorem own_ne_box {w : World} {base : Nat} {v : Value} {n : Nat} {xs : List Value} {g : Nat} {cs : Array Value} (h : w.ownsRow base 38 2 v n xs) (hb : Blk w g 24 cs) : some g ≠ v.ownBlock := fun he => by
  rcases h.2 with ⟨h1, _⟩ | ⟨g', cap, cur, h1, _, hh, _⟩
  · rw [h1] at he; cases he
  · rw [h1] at he
    have : g = g' := by simpa [Value.ownBlock] using he
    subst this
    have h2 : some (Obj.cells cs 24 (0, 0)) = some (Obj.cells cur 38 (0, 0)) := Eq.trans (Eq.symm hb) hh
    injection h2 with h2
    injection h2 with _ h2 _
    exact absurd h2 (by decide)
theorem keep4 {w : World} {g g' : Nat} {a b a' b' : Value} (h : Blk w g 24 #[a, b]) (h' : Blk w g' 24 #[a', b']) : w.cell? ⟨g, 0, none⟩ = some a ∧ w.cell? ⟨g, 1, none⟩ = some b ∧ w.cell? ⟨g', 0, none⟩ = some a' ∧ w.cell? ⟨g', 1, none⟩ = some b' :=
  ⟨h.two.1, h.two.2.1, h'.two.1, h'.two.2.1⟩

set_option maxRecDepth 100000 in
set_option maxHeartbeats 4000000 in
theorem rencode_any (N amp : Int) (A : Option Addr) (n c : Nat) (bs : List UInt8) (w : World) (hn : n = bs.length) (hm : n ≤ maxLen) (hA : Byt w.heap.size w A bs) :
    Calls Try.prog 11 #[.agg #[.int .i64 N, .slice A n c], .int .i64 amp] w (ResS w (encodeS N bs amp)) := by
  have hBb : Below w.heap.size w (w.alloc (.cells #[.int .i64 N, .slice A n c] 24)) := (Below.refl _ _).alloc (Nat.le_refl _) _
  have hck := rcheck_any N A n c bs _ hn hm (hA.on hBb)
  have HA := Lib.hid hA; have HN := Lib.hid hn; have HM := Lib.hid hm
  clear hA hn hm
  unfold encodeS
  by_cases hg : goodB N bs = true
  · rw [if_pos hg]
    rw [chk_yes hg] at hck
    have HCK := Lib.hid hck; clear hck
    by_cases ha : 1 ≤ amp ∧ amp ≤ 65536
    · rw [if_pos ha]
      obtain ⟨ha0, ha1⟩ := ha
      by_cases hN : N ≤ 4095
      · rw [if_pos hN]
        obtain ⟨hN0, _⟩ := (good_iff N bs).1 hg
        obtain ⟨M, rfl⟩ : ∃ M : Nat, N = (M : Int) := ⟨N.toNat, by omega⟩
        have hM : M ≤ 4095 := by omega
        have hput1 := fun W => rput_any 0 12 M none 0 0 [] W rfl (by decide) (fun h => absurd rfl h) (by omega)
        rw [put_len M hM] at hput1
        obtain ⟨l1, hl1e⟩ : ∃ l, l = numBits M 12 := ⟨_, rfl⟩
        rw [← hl1e] at hput1
        have hls : lst (M : Int) bs = listOf (M : Int) bs := by simp [lst, hg]
        have hlb := fun W (hB : Below w.heap.size w W) => list_any (M : Int) A n c bs W HN.out HM.out (HA.out.on hB)
        rw [hls] at hlb
        have hll : (listOf (M : Int) bs).length = M := by rw [listOf_length]; omega
        have hl1l : l1.length = 12 := by rw [hl1e, numBits_length]
        have henc : encL (listOf (M : Int) bs) amp = (pre.map (scale amp) ++ pairsS amp l1) ++ pairsS amp (listOf (M : Int) bs) := by
          unfold encL; rw [hll, ← hl1e, List.map_append, List.map_append, ← pairs_scale, ← pairs_scale]
        rw [henc]
        generalize listOf (M : Int) bs = lb at *
        have hpr := fun B bn bc (lx : List Bool) W (h1 : bn = lx.length) (h2 : bn ≤ 8192) (h3 : Bools W.heap.size W B lx) => rpairs_any B bn bc lx amp W h1 h2 h3 ha0 ha1
        have HP1 := Lib.hid hput1; have HLB := Lib.hid hlb; have HL1 := Lib.hid hl1l; have HLL := Lib.hid hll; have HPR := Lib.hid hpr
        clear hput1 hlb hl1e hll hl1l henc hls hg hpr
        have hd0 : decide (amp < 1) = false := by simp; omega
        have hd1 : decide (65536 < amp) = false := by simp; omega
        have hd2 : decide (4095 < (M : Int)) = false := by simp; omega
        have hd3 : decide (4095 < M) = false := by simp; omega
        have hu64 : IntKind.u64.wrap (M : Int) = (M : Int) := IntWalk.u64_in _ (by omega)
        obtain ⟨i0, hi, hz0, hz1, hz2⟩ := info_parts Try.infoS
        go_enter Try.func11, Try.ntmps11
        go_wp2_with fail
        refine HCK.out.mono ?_
        rintro e w1 ⟨rfl, hB1⟩
        have hbx := (Blk.new w 24 #[.int .i64 (M : Int), .slice A n c]).below hB1 (by simp)
        obtain ⟨hb0, hb1, _⟩ := hbx.two
        have hBw1 := hBb.trans (hB1.mono (by simp))
        have hs1 := hB1.size
        rw [World.size_alloc] at hs1
        have hw1 : w.heap.size < w1.heap.size := by omega
        go_wp2_with fail
        refine (rpreamble_any _).mono ?_
        rintro e w2 ⟨rfl, kp, hB2⟩
        have hbx2 := hbx.below hB2 hbx.lt
        have hBw2 := hBw1.trans (hB2.mono hBw1.size)
        have hs2 := hB2.size
        have hkpl := kp.lt
        clear hb0 hb1 hbx hB1
        go_wp2
        go_loopw [6, 8] (fun ov i wr => ∃ k : Nat, k ≤ 8 ∧ i = .int .i64 k ∧ wr.ownsRow w2.heap.size 38 2 ov k (cellsS ((pre.map (scale amp)).take k)) ∧ Below w2.heap.size w2 wr)
          (fun _ i _ => 8 - (intOf i).toNat)
        case atStart => exact ⟨0, by omega, rfl, World.ownsRow_nil _ _ _ _, Below.refl _ _⟩
        case round =>
          obtain ⟨k, hk, rfl, hrow, hBr⟩ := hrel
          have hsr := hBr.size
          by_cases hlt : k < 8
          · have hsn := map_snoc_s pre (scale amp) k hlt
            obtain ⟨_, _, he, _, hq0, hq1⟩ := (pre_smps (kp.on hBr)).at_ (k := k) hlt
            injection he with he; injection he with he1 he2; subst he1; subst he2
            rw [Nat.zero_add] at hq0 hq1
            obtain ⟨hp1, hp2⟩ := pre_at k hlt
            generalize pre[k]?.getD (0, 0) = ps at *
            obtain ⟨x, y⟩ := ps
            dsimp only at hq0 hq1 hp1 hp2
            have hs0 : scale amp (x, y) = (x * amp, y * amp) := rfl
            rw [hs0] at hsn
            have hw1' : IntKind.i64.wrap (amp * x) = x * amp := by rw [IntWalk.i64_in _ (by rcases hp1 with rfl | rfl <;> omega), Int.mul_comm]
            have hw2' : IntKind.i64.wrap (amp * y) = y * amp := by rw [IntWalk.i64_in _ (by rcases hp2 with rfl | rfl <;> omega), Int.mul_comm]
            generalize x * amp = X at *
            generalize y * amp = Y at *
            have HSN := Lib.hid hsn
            have hkw : w1.heap.size < wr.heap.size := by omega
            clear hsn hs0 hp1 hp2
            go_wp2
            have hBd : Below w2.heap.size wr wr.drew := (Below.refl _ _).drew
            have hrowd := own_on hrow (hBd.mono (Nat.le_refl _) |> fun _ => (Below.refl wr.heap.size wr).drew)
            have hkeep : ∀ W : World, Below w2.heap.size wr W → W.cell? ⟨w1.heap.size, k * 2, none⟩ = some (.int .i64 x) ∧ W.cell? ⟨w1.heap.size, k * 2 + 1, none⟩ = some (.int .i64 y) := fun W hBk => ⟨hBk.cell (p := ⟨w1.heap.size, k * 2, none⟩) hkpl |>.trans hq0, hBk.cell (p := ⟨w1.heap.size, k * 2 + 1, none⟩) hkpl |>.trans hq1⟩
            have HKP := Lib.hid hkeep; clear hkeep
            go_region_held3 (fun w' => w'.cell? ⟨w1.heap.size, k * 2, none⟩ = some (.int .i64 x) ∧ w'.cell? ⟨w1.heap.size, k * 2 + 1, none⟩ = some (.int .i64 y)) (first | exact HKP.out _ hBd | exact HKP.out _ (hBd.alloc hsr _) | exact HKP.out _ hBy)
              (first
                | (refine step_append_lies _ rfl _ _ 25 rfl w2.heap.size 38 i0 (.agg #[.int .i64 0, .int .i64 0]) 2 16 Try.underlying25 hi hz0 hz1 hz2 rfl (by decide) u6 _ _ rfl (hrowd.alloc _) ⟨wr.heap.size, 0, none⟩ 1 1 [.int .i64 X, .int .i64 Y] rfl rfl (cell_two_new _ _ _ _) (by simp [Value.oneCell']) (by decide) (by unfold maxLen; omega) (by omega) (by simp; omega) _ rfl ?_; intro g' cap' w3 hown' hgrow _ _; have hBy : Below w2.heap.size wr w3 := own_below hrowd hgrow hBd (Nat.le_refl _) hsr))
            go_wp2
            go_roundw
            case rel =>
              refine ⟨k + 1, by omega, by go_num, ?_, hBr.trans hBy⟩
              rw [← List.map_take, HSN.out, cellsS_append, List.map_take]
              exact hown'
            case measure => simp [intOf]; omega
          · obtain rfl : k = 8 := by omega
            rw [show (pre.map (scale amp)).take 8 = pre.map (scale amp) from rfl] at hrow
            obtain ⟨g6, cap6, hv6, _, _⟩ := hrow.form (by omega)
            subst hv6
            have kb := hbx2.below hBr (by omega)
            obtain ⟨hb0, hb1, _⟩ := kb.two
            have hkbl := kb.lt
            go_wp2_with fail
            refine (HP1.out _).mono ?_
            rintro e w3 ⟨A1, n1, c1, bs1, rfl, hn1, his1, hll1, hA1, hB3, _⟩
            dsimp only at his1 hll1
            have hlst : lst (l1.length : Int) bs1 = l1 := lst_more his1 hll1
            have HN1 := Lib.hid hn1; have HSM := Lib.hid (bytes_small his1 hll1)
            clear hn1 his1 hll1
            dsimp only
            have kb3 := kb.on hB3
            have hrow3 := own_on hrow hB3
            have al3 : Below w3.heap.size w3 (w3.alloc (.cells #[.int .i64 l1.length, .slice A1 n1 c1] 24)) := (Below.refl _ _).alloc (Nat.le_refl _) _
            have k9 := Blk.new w3 24 #[.int .i64 l1.length, .slice A1 n1 c1]
            have k2 := kb3.on al3
            have hrow4 := own_on hrow3 al3
            have hA14 := hA1.on al3
            have hB4 : Below w2.heap.size wr (w3.alloc (.cells #[.int .i64 l1.length, .slice A1 n1 c1] 24)) := (hB3.mono hsr).trans (al3.mono (Nat.le_trans hsr hB3.size))
            go_wp2
            have hne9 : w3.heap.size ≠ w.heap.size := by have := hB3.size; omega
            generalize w3.alloc (.cells #[.int .i64 l1.length, .slice A1 n1 c1] 24) = w4 at *
            have hBd4 : Below w4.heap.size w4 w4.drew := (Below.refl _ _).drew
            have k9d := k9.on hBd4
            have k2d := k2.on hBd4
            have hown6d := own_on hrow4 hBd4
            have hBdd : Below w2.heap.size wr w4.drew := hB4.trans (hBd4.mono (Nat.le_trans hsr hB4.size))
            have hszd : w2.heap.size ≤ w4.drew.heap.size := Nat.le_trans hsr hB4.size
            have hli := list_any (l1.length : Int) A1 n1 c1 bs1 w4.drew HN1.out (by rw [HN1.out]; exact HSM.out) (hA14.on hBd4)
            rw [hlst] at hli
            obtain ⟨p1, hp1⟩ : ∃ p, p = (pairsS amp l1).length := ⟨_, rfl⟩
            obtain ⟨p2, hp2⟩ : ∃ p, p = (pairsS amp lb).length := ⟨_, rfl⟩
            have hp1b : p1 ≤ 10 := by rw [hp1, pairsS_length, HL1.out]; decide
            have hp2b : p2 ≤ 4096 := by rw [hp2, pairsS_length, HLL.out]; omega
            have HLN := Lib.hid hli; have HPP1 := Lib.hid hp1; have HP2 := Lib.hid hp2
            clear hli hlst hp1 hp2 hA1 hA14 hrow hrow3 hrow4 kb kb3 hb0 hb1
            go_region_held3 (fun w' => w'.cell? ⟨w3.heap.size, 0, none⟩ = some (.int .i64 l1.length) ∧ w'.cell? ⟨w3.heap.size, 1, none⟩ = some (.slice A1 n1 c1) ∧ w'.cell? ⟨w.heap.size, 0, none⟩ = some (.int .i64 (M : Int)) ∧ w'.cell? ⟨w.heap.size, 1, none⟩ = some (.slice A n c)) (first | exact keep4 k9F k2F | exact keep4 k9E k2E | exact keep4 k9D k2D | exact keep4 k9C k2C | exact keep4 k9B k2B | exact keep4 k9A k2A | exact keep4 k9d k2d)
              (first
                | (have _ := hownE; refine step_append_row _ rfl _ _ 25 rfl w2.heap.size wD.heap.size 38 i0 (.agg #[.int .i64 0, .int .i64 0]) 2 16 Try.underlying25 hi hz0 hz1 hz2 rfl (by decide) vC vE (8 + p1) p2 _ _ rfl rfl hownCE hownE (cellsS_one _) (by unfold maxLen; omega) (by omega) hszE ?_; intro vF wF hownF hgrowF; have hBF : Below w2.heap.size wr wF := hBE.trans (own_grown_low2 hownCE hgrowF hszE); have k9F := k9E.grown hgrowF (own_ne_box hownCE k9E); have k2F := k2E.grown hgrowF (own_ne_box hownCE k2E))
                | (have _ := hboD; go_at_call 41; refine (HPR.out BD lb.length dc lb wD rfl (by have := HLL.out; omega) hboD).mono ?_; rintro e wE ⟨vE, rfl, hownE', hBE'⟩; have hownE : wE.ownsRow wD.heap.size 38 2 vE p2 (cellsS (pairsS amp lb)) := (by rw [HP2.out]; exact hownE'); have hownCE := own_on hownCD hBE'; have k9E := k9D.on hBE'; have k2E := k2D.on hBE'; have hBE : Below w2.heap.size wr wE := hBD.trans (hBE'.mono (Nat.le_trans hsr (Nat.le_trans hszD (Nat.le_refl _)))); have hszE : w2.heap.size ≤ wE.heap.size := Nat.le_trans hszD' hBE'.size)
                | (have _ := hownC; go_at_call 42; refine (HLB.out _ hBwC).mono ?_; rintro e wD ⟨vD, rfl, hownD, hBD'⟩; obtain ⟨BD, dc, rfl, hboD⟩ := bools_of_own hownD; have hownCD := own_on hownC hBD'; have k9D := k9C.on hBD'; have k2D := k2C.on hBD'; have hszD' : w2.heap.size ≤ wD.heap.size := Nat.le_trans hszC hBD'.size; have hBD : Below w2.heap.size wr wD := hBC.trans (hBD'.mono hszC); have hszD : wr.heap.size ≤ wD.heap.size := hBD.size)
                | (have _ := hownB; refine step_append_row _ rfl _ _ 25 rfl w2.heap.size wA.heap.size 38 i0 (.agg #[.int .i64 0, .int .i64 0]) 2 16 Try.underlying25 hi hz0 hz1 hz2 rfl (by decide) (.slice (some ⟨g6, 0, none⟩) 8 cap6) vB 8 p1 _ _ rfl rfl hown6B hownB (cellsS_one _) (by unfold maxLen; omega) (by omega) hszB ?_; intro vC wC hownC hgrowC; have hBC : Below w2.heap.size wr wC := hBB.trans (own_grown_low2 hown6B hgrowC hszB); have k9C := k9B.grown hgrowC (own_ne_box hown6B k9B); have k2C := k2B.grown hgrowC (own_ne_box hown6B k2B); have hszC : w2.heap.size ≤ wC.heap.size := Nat.le_trans hsr hBC.size; have hBwC : Below w.heap.size w wC := hBw2.trans ((hBr.trans hBC).mono hBw2.size))
                | (go_at_call 42; refine HLN.out.mono ?_; rintro e wA ⟨vA, rfl, hownA, hBA'⟩; obtain ⟨BA, ac, rfl, hboA⟩ := bools_of_own hownA; have hown6A := own_on hown6d hBA'; have k9A := k9d.on hBA'; have k2A := k2d.on hBA'; have hszA : w2.heap.size ≤ wA.heap.size := Nat.le_trans hszd hBA'.size; have hBA : Below w2.heap.size wr wA := hBdd.trans (hBA'.mono hszd))
                | (have _ := hboA; go_at_call 41; refine (HPR.out BA l1.length ac l1 wA rfl (by have := HL1.out; omega) hboA).mono ?_; rintro e wB ⟨vB, rfl, hownB', hBB'⟩; have hownB : wB.ownsRow wA.heap.size 38 2 vB p1 (cellsS (pairsS amp l1)) := (by rw [HPP1.out]; exact hownB'); have hown6B := own_on hown6A hBB'; have k9B := k9A.on hBB'; have k2B := k2A.on hBB'; have hBB : Below w2.heap.size wr wB := hBA.trans (hBB'.mono hszA); have hszB : w2.heap.size ≤ wB.heap.size := Nat.le_trans hszA hBB'.size))
            have hfin : wF.ownsRow w2.heap.size 38 2 vF (8 + p1 + p2) (cellsS ((pre.map (scale amp) ++ pairsS amp l1) ++ pairsS amp lb)) := by
              rw [cellsS_append, cellsS_append]; exact hownF
            obtain ⟨OA, oc, hvF, hSF⟩ := smps_of_own hfin
            subst hvF
            have hcapF := own_cap hfin
            have hfrF := own_fresh hfin
            have HSF := Lib.hid hSF
            have hBwF : Below w.heap.size w wF := hBw2.trans ((hBr.trans hBF).mono hBw2.size)
            clear hfin hSF
            go_wp2
            go_ret2
            exact ⟨OA, _, oc, rfl, rfl, hcapF, HSF.out, hBwF, fun a ha _ => Nat.le_trans hBw2.size (hfrF a ha)⟩
      · rw [if_neg hN]
        have hd0 : decide (amp < 1) = false := by simp; omega
        have hd1 : decide (65536 < amp) = false := by simp; omega
        have hd2 : decide (4095 < N) = true := by simp; omega
        go_enter Try.func11, Try.ntmps11
        go_wp2_with fail
        refine HCK.out.mono ?_
        rintro e w1 ⟨rfl, hB1⟩
        have hbx := (Blk.new w 24 #[.int .i64 N, .slice A n c]).below hB1 (by simp)
        obtain ⟨hb0, hb1, _⟩ := hbx.two
        have hBw1 := hBb.trans (hB1.mono (by simp))
        go_wp2
        go_ret2
        exact ⟨none, 0, 0, rfl, rfl, Nat.le_refl _, fun h => absurd rfl h, hBw1, fun a ha => by cases ha⟩
    · rw [if_neg ha]
      go_enter Try.func11, Try.ntmps11
      go_wp2_with fail
      refine HCK.out.mono ?_
      rintro e w1 ⟨rfl, hB1⟩
      have hBw1 := hBb.trans (hB1.mono (by simp))
      by_cases h1 : amp < 1
      · have hd0 : decide (amp < 1) = true := by simpa using h1
        clear ha
        go_wp2
        go_ret2
        exact ⟨none, 0, 0, rfl, rfl, Nat.le_refl _, fun h => absurd rfl h, hBw1, fun a ha => by cases ha⟩
      · have hd0 : decide (amp < 1) = false := by simpa using h1
        have hd1 : decide (65536 < amp) = true := by simp; omega
        clear ha
        go_wp2
        go_ret2
        exact ⟨none, 0, 0, rfl, rfl, Nat.le_refl _, fun h => absurd rfl h, hBw1, fun a ha => by cases ha⟩
  · rw [if_neg hg]
    rw [Bool.not_eq_true] at hg
    rw [chk_no hg] at hck
    have HCK := Lib.hid hck; clear hck
    go_enter Try.func11, Try.ntmps11
    go_wp2_with fail
    refine HCK.out.mono ?_
    rintro e w1 ⟨rfl, hB1⟩
    have hBw1 := hBb.trans (hB1.mono (by simp))
    go_wp2
    go_ret2
    exact ⟨none, 0, 0, rfl, rfl, Nat.le_refl _, fun h => absurd rfl h, hBw1, fun a ha => by cases ha⟩
end Go.Proofs.Ytdmedhklcicpeaa
