/-
  The law of the mean that lies within. Conditions: those that each theorem names.
-/
import Derived.Test.YtfncccjiiipfoaaFJ
import Derived.Deep.RegionHeld3
namespace Go.Proofs.Ytfncccjiiipfoaa
open Go.RowKit

theorem Ints.drop {n₀ : Nat} {W : World} {b off : Nat} {l : List Int} (h : Ints n₀ W (some ⟨b, off, none⟩) l) (k : Nat) : Ints n₀ W (some ⟨b, off + k, none⟩) (l.drop k) := fun hn => by
  have hk : k < l.length := by
    rcases Nat.lt_or_ge k l.length with h | h
    · exact h
    · exact absurd (List.drop_eq_nil_of_le h) hn
  obtain ⟨b', off', e, hlt, hc⟩ := h (by rintro rfl; simp at hk)
  injection e with e
  injection e with e1 e2 _
  subst e1; subst e2
  refine ⟨b, off + k, rfl, hlt, fun j hj => ?_⟩
  rw [List.length_drop] at hj
  have := hc (k + j) (by omega)
  rw [List.getElem?_drop, Nat.add_assoc]
  exact this
/-- The numbers, the first j of them raised. -/
def ups (L : List Int) (r : Int) (j : Nat) : List Int := (L.take j).map (· + r) ++ L.drop j
theorem ups_zero (L : List Int) (r : Int) : ups L r 0 = L := by unfold ups; simp
theorem ups_length (L : List Int) (r : Int) (j : Nat) : (ups L r j).length = L.length := by unfold ups; simp; omega
theorem ups_whole (L : List Int) (r : Int) : ups L r L.length = L.map (· + r) := by unfold ups; simp
theorem ups_nth (L : List Int) (r : Int) (j : Nat) (h : j < L.length) : nth (ups L r j) j = nth L j := by
  unfold nth ups
  rw [List.getElem?_append_right (by simp; omega)]
  simp
  rw [show j + (j - min j L.length) = j by omega]
theorem ups_step (L : List Int) (r : Int) (j : Nat) (h : j < L.length) : (ups L r j).set j (nth L j + r) = ups L r (j + 1) := by
  unfold ups
  rw [take_nth L j h, List.map_append, List.set_append_right _ _ (by simp; omega), List.append_assoc]
  rw [List.length_map, List.length_take, Nat.min_eq_left (by omega), Nat.sub_self, List.drop_eq_getElem_cons h]
  rfl
theorem within_math {t : List Int} {k : Nat} {r : Int} (h : (midS t).2 = 0) :
    (midS (t.drop k ++ t.take k) = midS t) ∧ (keptS t).1 ≤ (midS t).1 ∧ (midS t).1 ≤ (keptS t).2.1 ∧ ((midS ((t.drop k ++ t.take k).map (· + r))).2 = 0 → (midS ((t.drop k ++ t.take k).map (· + r))).1 = (midS t).1 + r) ∧ inOff (t.drop k ++ t.take k) := by
  obtain ⟨h0, hin⟩ := keptS_ok h
  have hp : (t.drop k ++ t.take k).Perm t := by
    have := (List.perm_append_comm (l₁ := t.drop k) (l₂ := t.take k))
    rw [List.take_append_drop] at this
    exact this
  have hin2 : inOff (t.drop k ++ t.take k) := fun y hy => hin y (hp.mem_iff.1 hy)
  have h02 : 0 < (t.drop k ++ t.take k).length := by rw [hp.length_eq]; exact h0
  have hw := midOf_within t h0
  rw [midS_in h0 hin, midS_in h02 hin2, keptS_in h0 hin, midOf_turned hp h02]
  refine ⟨rfl, hw.1, hw.2, fun hu => ?_, hin2⟩
  obtain ⟨h03, hin3⟩ := keptS_ok hu
  rw [midS_in h03 hin3]
  show midOf _ = _
  rw [midOf_map _ _ h02, midOf_turned hp h02]
theorem tmod_small (c : Int) : -1099511627776 < c.tmod 1099511627776 ∧ c.tmod 1099511627776 < 1099511627776 := by
  have h1 := Int.tmod_lt_of_pos c (b := 1099511627776) (by decide)
  have h2 := Int.tmod_lt_of_pos (-c) (b := 1099511627776) (by decide)
  rw [Int.neg_tmod] at h2
  omega

/-- append(s, x...) at a step of a region that draws, s a row of the call's own, x in memory. -/
theorem step_append_own2 {P : Program} (w : World) {ops : Array Oper} {o : Oper} {a : Act} {K : Act → World → Prop} {Q : Exit → Act → World → Prop} {E : Prop} (hgd : o.guard = none) (s x : Operand) (t : TypeId)
    (ho : o.op = .call { callee := .builtin .append, args := #[s, x], argTypes := #[t, t] })
    (base : Nat) (e : TypeId) (i : TypeInfo) (z : Value) (size bytes : Nat) (ht : P.underlying t = some (.slice e)) (hi : P.info? e = some i) (hz : i.zero = some z)
    (hsize : i.size = size) (hby : i.bytes = bytes) (hzs : z.cells.size = size) (hsz : 0 < size)
    (v : Value) (n : Nat) (xs : List Value) (hs : a.eval s = v) (hown : w.ownsRow base e size v n xs)
    (ad : Addr) (m c : Nat) (news : List Value) (hx : a.eval x = .slice (some ad) m c) (hl : news.length = m * size) (hnews : ∀ j u, news[j]? = some u → w.cell? (ad.add j) = some u) (h1 : ∀ u ∈ news, u.oneCell' = true)
    (h63 : n + m ≤ maxLen) (hbytes : (n + m) * bytes ≤ 140737488355328) (hbase : base ≤ w.heap.size)
    (h : ∀ v' w', w'.ownsRow base e size v' (n + m) (xs ++ news) → w.grownBy w' v.ownBlock → K (a.put o.dst v') w') :
    if Region.wanted o (yielded ops a.tmps) = true then Oper.wp P o a w K Q else E := by
  have hw : Region.wanted o (yielded ops a.tmps) = true := by simp [Region.wanted, hgd]
  rw [if_pos hw]
  exact wp_append_own w s x t ho base e i z size bytes ht hi hz hsize hby hzs hsz v n xs hs hown ad m c news hx hl hnews h1 h63 hbytes hbase fun v' w' h2 h3 _ => h v' w' h2 h3

set_option maxRecDepth 8000 in
set_option maxHeartbeats 4000000 in
theorem within_law (A : Option Addr) (n c : Nat) (l : List Int) (cc : Int) (tu : Nat) (w : World) (hn : n = l.length) (hm : n ≤ maxLen) (hcap : n ≤ c) (hcn : A = none → n = 0 ∧ c = 0) (hA : Ints w.heap.size w A l) (htu : tu < 256) :
    Calls Try.prog 5 #[.slice A n c, .int .i64 cc, .int .u8 (tu : Int)] w fun e w' => e = .returned (.bool true) ∧ Below w.heap.size w w' := by
  obtain ⟨m, hmin⟩ : ∃ m, m = min n 60 := ⟨_, rfl⟩
  have hfew := fewJ_any A n c m w hcap hm hmin hcn
  have hml : m = (l.take m).length := by rw [List.length_take]; omega
  have hI := hA.take m
  have hnil : A = none → m = 0 ∧ c = 0 := fun h => ⟨by have := hcn h; omega, (hcn h).2⟩
  have hm6 : m ≤ 60 := by omega
  have hmc : m ≤ c := by omega
  clear hmin hA hn hcn hcap hm
  generalize l.take m = t at *
  have hin := fun w1 (h : Below w.heap.size w w1) => (hI.below h).mono h.size
  have hmi := fun w1 (h : Below w.heap.size w w1) => mid_any A m c t w1 hml (by omega) (hin w1 h)
  have hk := fun w1 (h : Below w.heap.size w w1) => kept_any A m c t w1 hml (by omega) (hin w1 h)
  obtain ⟨k, hkd⟩ : ∃ k, k = tu % m := ⟨_, rfl⟩
  obtain ⟨r, hr⟩ : ∃ r, r = cc.tmod 1099511627776 := ⟨_, rfl⟩
  have hrb := tmod_small cc
  rw [← hr] at hrb
  have hmath := within_math (t := t) (k := k) (r := r)
  have hpe : (keptS t).2.2 = (midS t).2 := rfl
  have hp0 := take_pos (t := t)
  have hbd := keptS_bound t
  unfold midV at hmi
  unfold keptV at hk
  generalize keptS t = r3 at *
  obtain ⟨a, b, e⟩ := r3
  dsimp only at hpe
  subst hpe
  generalize hpm : midS t = p at *
  obtain ⟨p1, p2⟩ := p
  dsimp only at *
  have HF := Lib.hid hfew; have HK := Lib.hid hk; have HMI := Lib.hid hmi; have HR := Lib.hid hr
  have ew : IntKind.i64.wrap r = r := IntWalk.i64_in _ (by omega)
  have et : IntKind.i64.wrap (tu : Int) = (tu : Int) := IntWalk.i64_in _ (by omega)
  have er : cc.tmod 1099511627776 = r := hr.symm
  clear hfew hk hmi hr
  have hB := Below.refl w.heap.size w
  by_cases h0 : p2 = 0
  · subst h0
    obtain ⟨hq, ha, hb, hs, hio⟩ := hmath rfl
    have hm0 : 0 < m := by have := (hp0 rfl).1; omega
    have hkm : k < m := by rw [hkd]; exact Nat.mod_lt _ hm0
    obtain ⟨b0, o0, rfl, hb0, -⟩ := hI (by rintro rfl; simp at hml; omega)
    have hrem : (tu : Int).tmod (m : Int) = (k : Int) := by rw [hkd]; exact rem_nat tu m
    have hrem2 : (tu : Int) % (m : Int) = (k : Int) := by rw [hkd]; rfl
    have hLl : (t.drop k ++ t.take k).length = m := by rw [List.length_append, List.length_drop, List.length_take]; omega
    have hcl := fun w1 (h : Below w.heap.size w w1) => jcopy_any (some ⟨b0, o0 + k, none⟩) (m - k) (c - k) (t.drop k) w1 (by rw [List.length_drop, hml]) (by omega) ((hin w1 h).drop k) (fun h => by cases h)
    have htk := fun w1 (h : Below w.heap.size w w1) => (hin w1 h).take k
    obtain ⟨i0, hi, hz0, hz1, hz2⟩ := info_parts Try.infoJ
    have hmap : (t.drop k).map (Value.int .i64) ++ (t.take k).map (Value.int .i64) = (t.drop k ++ t.take k).map (Value.int .i64) := by rw [List.map_append]
    have htl : ((t.take k).map (Value.int .i64)).length = k * 1 := by rw [List.length_map, List.length_take]; omega
    have hone := ints_one (t.take k)
    generalize t.take k = T at *
    generalize hLd : t.drop k ++ T = L at *
    have hmiL := fun B d w1 (h : Ints w1.heap.size w1 B L) => mid_any B m d L w1 hLl.symm (by omega) h
    have hmiU := fun B d w1 (h : Ints w1.heap.size w1 B (L.map (· + r))) => mid_any B m d (L.map (· + r)) w1 (by rw [List.length_map]; exact hLl.symm) (by omega) h
    rw [hq] at hmiL
    generalize midS (L.map (· + r)) = s at *
    obtain ⟨s1, s2⟩ := s
    unfold midV at hmiL hmiU
    dsimp only at hmiL hmiU hs
    have HCL := Lib.hid hcl; have HTK := Lib.hid htk; have HML := Lib.hid hmiL; have HMU := Lib.hid hmiU; have HMAP := Lib.hid hmap; have HTL := Lib.hid htl; have HLL := Lib.hid hLl; have HS := Lib.hid hs; have HIO := Lib.hid hio; have HONE := Lib.hid hone
    clear hcl htk hmiL hmiU hmap htl hLl hs hio hone hLd hq hpm hmath hp0 hin hI hnil hml hkd htu
    unfold mOff at hbd
    have ep : IntKind.i64.wrap (p1 + r) = p1 + r := IntWalk.i64_in _ (by omega)
    have da : decide (a ≤ p1) = true := decide_eq_true ha
    have db : decide (p1 ≤ b) = true := decide_eq_true hb
    go_enter Try.func5, Try.ntmps5
    go_wp2_with (first
      | (go_at_call 9; refine HF.out.mono ?_; rintro e w1 ⟨rfl, rfl⟩)
      | (go_at_call 13; refine (HMI.out _ hB).mono ?_; rintro e w1 ⟨rfl, hC⟩; replace hB := hB.trans (hC.mono hB.size); clear hC)
      | (go_at_call 11; refine (HK.out _ hB).mono ?_; rintro e w1 ⟨rfl, hC⟩; replace hB := hB.trans (hC.mono hB.size); clear hC)
      | (go_at_call 15; refine (begun_any _).mono ?_; rintro e w1 ⟨rfl, hC⟩; replace hB := hB.trans (hC.mono hB.size); clear hC))
    replace hB := hB.drew
    have f1 : ¬ c = k := by omega
    have f2 : k ≤ c := by omega
    have f3 : k ≤ m := by omega
    have f4 : ¬ c < k := by omega
    have f5 : ¬ m < k := by omega
    go_region_held3 (fun w' => True) (first | exact trivial) (first
      | (have _ := ho; refine step_append_own2 _ rfl _ _ 22 rfl w1.drew.heap.size 2 i0 (.int .i64 0) 1 8 Try.underlying22 hi hz0 hz1 hz2 rfl (by decide) (.slice B (m - k) d) (m - k) _ (by simp [Act.eval]) ho ⟨b0, o0, none⟩ k c (T.map (Value.int .i64)) (by simp [Act.eval]) HTL.out (fun j u hj => ints_cells (HTK.out _ hB) j u hj) HONE.out (by unfold maxLen; omega) (by omega) hwb ?_; intro v' w3 hown hgrow)
      | (go_at_call 10; refine (HCL.out _ hB).mono ?_; rintro e w2 ⟨B, d, rfl, -, -, ho, -, hC⟩; have hwB := hB.size; have hwb := hC.size; replace hB := hB.trans (hC.mono hB.size); clear hC))
    have hB3 := hB.grown hgrow hB.size (fun q eq => Nat.le_trans hwB (ho.lt q eq).1)
    rw [HMAP.out, show m - k + k = m by omega] at hown
    obtain ⟨A2, c2, rfl⟩ := own_slice hown
    obtain ⟨g, cur, rfl, hg, hO⟩ := own_block hown (by rw [HLL.out]; omega)
    have hwg := Nat.le_trans hwB hg
    clear ho hwB hwb hB hown hgrow f1 f2 f3 f4 f5 hg
    go_wp2_with (go_at_call 13; refine (HML.out _ _ _ hO.ints).mono ?_; rintro e w4 ⟨rfl, hC⟩; have hO4 := hO.on hC; have hB4 := hB3.trans (hC.mono hB3.size); clear hC hO hB3)
    go_loopw [63] (fun i wr => ∃ (j : Nat) (cur' : Array Value), j ≤ m ∧ i = .int .i64 j ∧ OwnJ wr g (ups L r j) 2 cur' ∧ Below w.heap.size w wr) (fun i _ => m - (intOf i).toNat)
    case atStart => exact ⟨0, cur, by omega, rfl, by rw [ups_zero]; exact hO4, hB4⟩
    case round =>
      obtain ⟨j, cur', hj, rfl, hO, hB⟩ := hrel
      clear hO4 hB4
      by_cases hlt : j < m
      · have hjl : j < L.length := by rw [HLL.out]; exact hlt
        have hc := hO.cell (j := j) (by rw [ups_length]; exact hjl)
        rw [ups_nth _ _ _ hjl] at hc
        have hy := HIO.out _ (nth_mem hjl)
        unfold mOff at hy
        have hset := hO.set_ (k := j) (by rw [ups_length]; exact hjl) (nth L j + r)
        rw [ups_step _ _ _ hjl] at hset
        have hgl := hO.lt
        have hf := hO.blk.frozen j
        generalize nth L j = y at *
        have ey : IntKind.i64.wrap (y + r) = y + r := IntWalk.i64_in _ (by omega)
        have HSET := Lib.hid hset; clear hset hO hjl
        go_wp2
        go_roundw
        case rel => exact ⟨j + 1, _, by omega, by go_num, HSET.out, hB.setCell (p := ⟨g, j, none⟩) hwg _⟩
        case measure => simp [intOf]; omega
      · obtain rfl : j = m := by omega
        have hO2 := hO
        rw [show j = L.length from HLL.out.symm, ups_whole] at hO2
        have HO2 := Lib.hid hO2; clear hO2 hO
        go_wp2_with (go_at_call 13; refine (HMU.out _ _ _ HO2.out.ints).mono ?_; rintro e w4 ⟨rfl, hC⟩; replace hB := hB.trans (hC.mono hB.size); clear hC)
        all_goals
          rename_i hs2
          first
            | (go_ret; exact ⟨rfl, hB⟩)
            | (obtain rfl : s1 = p1 + r := HS.out hs2; go_ret; exact ⟨by simp, hB⟩)
  · have d0 : decide (p2 = 0) = false := by simpa using h0
    have d1 : (p2 == 0) = false := by simpa using h0
    have d2 : (p2 != 0) = true := by simpa using h0
    clear hmath hp0 hin hI hnil hpm hml hrb hkd htu
    go_enter Try.func5, Try.ntmps5
    go_wp2_with (first
      | (go_at_call 9; refine HF.out.mono ?_; rintro e w1 ⟨rfl, rfl⟩)
      | (go_at_call 13; refine (HMI.out _ hB).mono ?_; rintro e w1 ⟨rfl, hC⟩; replace hB := hB.trans (hC.mono hB.size); clear hC)
      | (go_at_call 11; refine (HK.out _ hB).mono ?_; rintro e w1 ⟨rfl, hC⟩; replace hB := hB.trans (hC.mono hB.size); clear hC)
      | (go_at_call 15; refine (begun_any _).mono ?_; rintro e w1 ⟨rfl, hC⟩; replace hB := hB.trans (hC.mono hB.size); clear hC))
    go_ret
    exact ⟨rfl, hB⟩
end Go.Proofs.Ytfncccjiiipfoaa
