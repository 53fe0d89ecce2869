/-
  Round of package cni. Condition: an interface that can be read. (Printed by tools/gen12jg.py.)
-/
import Derived.Test.YtnlmpemfpkmodaaJF
import Derived.Sort.CutIn
namespace Go.Proofs.Ytnlmpemfpkmodaa
open Go.RowKit Go.Shelf
attribute [local go_sem] Oper.semAt_some

theorem blk_keepO {W W' : World} {g : Nat} {t : TypeId} {cs : Array Value} {row : Option Nat} (h : Blk W g t cs) (hg : W.grownBy W' row) (hr : ∀ r, row = some r → ∃ o : Obj, W.heap[r]? = some o ∧ o.isCells = false) : Blk W' g t cs := by
  refine h.grown hg (fun e => ?_)
  obtain ⟨o, ho, hc⟩ := hr g e.symm
  unfold Blk at h
  rw [h] at ho
  cases ho
  cases hc
theorem own_keepO {W W' : World} {row : Option Nat} {b sz n : Nat} {e : TypeId} {v : Value} {xs : List Value} (h : W.ownsRow b e sz v n xs) (hg : W.grownBy W' row) (hr : ∀ r, row = some r → ∃ o : Obj, W.heap[r]? = some o ∧ o.isCells = false) : W'.ownsRow b e sz v n xs := by
  refine h.kept hg ?_
  rcases h.2 with ⟨rfl, -⟩ | ⟨g, cap, cur, rfl, _, hh, _⟩
  · exact .inl rfl
  · refine .inr (fun e => ?_)
    obtain ⟨o, ho, hc⟩ := hr g e.symm
    rw [hh] at ho
    cases ho
    cases hc
theorem ku_keepO {W W' : World} {row : Option Nat} (hg : W.grownBy W' row) (hr : ∀ r, row = some r → ∃ o : Obj, W.heap[r]? = some o ∧ o.isCells = false) : Ku W W' := fun _ _ _ _ x => own_keepO x hg hr
/-- The messages that are a round older as often as their slot was told. -/
def Aged (ms : List Ms) (pre : List Nat) (l : List (Ms × Sl3)) : Prop := l.length = ms.length ∧ ∀ (j : Nat) (y : Ms × Sl3), l[j]? = some y → ∃ z, ms[j]? = some z ∧ y.1 = ⟨z.d, z.g + (pre.count j : Nat)⟩
theorem aged_nil {ms : List Ms} {l : List (Ms × Sl3)} (h : l.map Prod.fst = ms) : Aged ms [] l := by
  subst h
  refine ⟨by simp, fun j y hy => ⟨y.1, by simp [hy], ?_⟩⟩
  simp
theorem aged_snoc {ms : List Ms} {pre : List Nat} {l : List (Ms × Sl3)} (h : Aged ms pre l) {j : Nat} {y : Ms × Sl3} (hy : l[j]? = some y) : Aged ms (pre ++ [j]) (l.set j ((⟨y.1.d, y.1.g + 1⟩ : Ms), y.2)) := by
  refine ⟨by rw [List.length_set]; exact h.1, fun i x hx => ?_⟩
  have hl : j < l.length := (List.getElem?_eq_some_iff.1 hy).1
  rw [List.getElem?_set] at hx
  by_cases e : j = i
  · subst e
    rw [if_pos rfl, if_pos hl] at hx
    injection hx with hx
    subst hx
    obtain ⟨z, hz, hyz⟩ := h.2 j y hy
    refine ⟨z, hz, ?_⟩
    rw [hyz, List.count_append]
    dsimp only
    simp
    omega
  · rw [if_neg e] at hx
    obtain ⟨z, hz, hyz⟩ := h.2 i x hx
    refine ⟨z, hz, ?_⟩
    rw [hyz, List.count_append]
    have : List.count i [j] = 0 := by simp [e]
    rw [this]; simp
theorem freshTo_count (s : Cn) (q : Int) (j k : Nat) : (freshTo s q k).count j = if j < k ∧ isFresh (s.ms[j]?.getD default) q = true then 1 else 0 := by
  induction k with
  | zero => simp [freshTo]
  | succ k ih =>
    cases hf : isFresh (s.ms[k]?.getD default) q with
    | true =>
      rw [freshTo_yes hf, List.count_append, ih]
      by_cases e : j = k
      · subst e
        simp [hf]
      · have : List.count j [k] = 0 := by simp [List.count_cons]; omega
        rw [this]
        by_cases h2 : j < k
        · simp [h2, show j < k + 1 by omega]
        · simp [h2, show ¬ j < k + 1 by omega]
    | false =>
      rw [freshTo_no hf, ih]
      by_cases e : j = k
      · subst e
        simp [hf]
      · by_cases h2 : j < k
        · simp [h2, show j < k + 1 by omega]
        · simp [h2, show ¬ j < k + 1 by omega]
theorem aged_all {s : Cn} (h : okCn s) {l : List (Ms × Sl3)} (ha : Aged s.ms (freshCn s 255) l) : l.map Prod.fst = s.ms.map olderMs := by
  refine List.ext_getElem? fun j => ?_
  rw [List.getElem?_map, List.getElem?_map]
  by_cases hj : j < s.ms.length
  · have hjl : j < l.length := by rw [ha.1]; exact hj
    obtain ⟨z, hz, hyz⟩ := ha.2 j l[j] (by simp)
    rw [List.getElem?_eq_getElem hjl, hz]
    have hk := h.2 j hj
    rw [hz] at hk
    obtain ⟨-, k1, k2⟩ := hk
    have k3 : 0 ≤ z.g := k1
    have k4 : z.g ≤ 255 := k2
    show some l[j].1 = some (olderMs z)
    rw [hyz]
    unfold freshCn
    rw [if_pos h, freshTo_count, hz]
    unfold olderMs isFresh
    dsimp only [Option.getD_some]
    by_cases e : z.g < 255
    · rw [if_pos ⟨hj, by simp [e]; omega⟩, show min (z.g + 1) 255 = z.g + 1 by omega]; rfl
    · rw [if_neg (by simp [e]), show min (z.g + 1) 255 = z.g by omega]; simp
  · rw [List.getElem?_eq_none (by rw [ha.1]; omega), List.getElem?_eq_none (by omega)]; rfl
theorem fresh_lt {s : Cn} {q : Int} {x : Nat} (h : x ∈ freshCn s q) : x < s.ms.length := by
  unfold freshCn at h
  split at h
  · unfold freshTo at h
    have := (List.mem_filter.1 h).1
    simpa using this
  · cases h
/-- The slots as numbers below how many there are. -/
theorem fins_of (n : Nat) (L : List Nat) (h : ∀ x ∈ L, x < n) : ∃ F : List (Fin n), F.map Fin.val = L := by
  induction L with
  | nil => exact ⟨[], rfl⟩
  | cons a L ih =>
    obtain ⟨F, hF⟩ := ih (fun x hx => h x (List.mem_cons_of_mem _ hx))
    exact ⟨⟨a, h a List.mem_cons_self⟩ :: F, by simp [hF]⟩
/-- What lies in Round's own variables. -/
def RoundI (w : World) (hi gn gw un : Nat) (s : Cn) (v : Sl3) (uc : Nat) (pre : List Nat) (W : World) : Prop :=
  ∃ l : List (Ms × Sl3), Aged s.ms pre l ∧ W.ownsRow w.heap.size 51 2 (.slice (some ⟨gw, 0, none⟩) un uc) un (cellsM l) ∧ MsRd w.heap.size l W ∧ W.ownsRow w.heap.size 5 1 (.slice v.A v.n v.c) v.n (cellsU s.out) ∧
    Blk W gn 25 #[.int .i64 s.id, .slice v.A v.n v.c, .slice (some ⟨gw, 0, none⟩) un uc, .int .i64 s.life, .int .i64 s.want] ∧ Blk W (w.heap.size + 1) 25 #[.int .i64 0, .slice none 0 0, .slice none 0 0, .int .i64 0, .int .i64 0] ∧ Below w.heap.size w W ∧ hi ≤ W.heap.size
theorem roundI_kept {w : World} {hi gn gw un : Nat} {s : Cn} {v : Sl3} {uc : Nat} {pre : List Nat} {X Y : World} {row : Option Nat} (h : RoundI w hi gn gw un s v uc pre X) (hwh : w.heap.size ≤ hi) (hg : X.grownBy Y row) (hr : ∀ r, row = some r → hi ≤ r ∧ ∃ o : Obj, X.heap[r]? = some o ∧ o.isCells = false) : RoundI w hi gn gw un s v uc pre Y := by
  obtain ⟨l, h1, h2, h3, h4, h5, h6, h7, h8⟩ := h
  have hr' : ∀ r, row = some r → ∃ o : Obj, X.heap[r]? = some o ∧ o.isCells = false := fun r e => (hr r e).2
  have hk := ku_keepO hg hr'
  exact ⟨l, h1, own_keepO h2 hg hr', h3.keep hk, hk _ _ _ _ h4, blk_keepO h5 hg hr', blk_keepO h6 hg hr', h7.grown hg (by omega) (fun q e => by have := (hr q e).1; omega), Nat.le_trans h8 hg.size⟩

set_option maxRecDepth 100000 in
set_option maxHeartbeats 4000000 in
theorem proundCn_any (s : Cn) (v u : Sl3) (w : World) (h : CnOk w.heap.size w s v u) : Calls Try.prog 27 #[.agg (cCn s v u)] w (ResCn w (roundCn s)) := by
  have hfr := fun U (hm : u.n ≤ 60) (hb : Below w.heap.size w U) => freshG_any s v u 255 U (h.on hb) hm
  have hmn := h.mn
  have q0 : ¬ okCn s → roundCn s = (120, zeroCn) := fun h => by unfold roundCn; rw [if_neg h]
  have q3 : okCn s → roundCn s = (0, ⟨s.id, s.out, s.ms.map olderMs, max (s.life - 1) 0, s.want⟩) := fun h => by unfold roundCn; rw [if_pos h]
  have hbd : okCn s → s.ms.length ≤ 8 ∧ (0 ≤ s.life ∧ s.life ≤ 4) ∧ ∀ z ∈ s.ms, 0 ≤ z.g ∧ z.g ≤ 255 := fun h => ⟨h.1.2.1, ⟨h.1.2.2.2.2.2.1, h.1.2.2.2.2.2.2.1⟩, fun z hz => by
    obtain ⟨k, hk, rfl⟩ := List.getElem_of_mem hz
    have := h.2 k hk
    simp only [List.getElem?_eq_getElem hk, Option.getD_some] at this
    exact this.2⟩
  have hal := fun (l : List (Ms × Sl3)) (h : okCn s) (ha : Aged s.ms (freshCn s 255) l) => aged_all h ha
  obtain ⟨F, hF⟩ := fins_of s.ms.length (freshCn s 255) (fun x hx => fresh_lt hx)
  have h4 : okCn s → 4 ≤ s.ms.length := fun h => h.1.1
  have hml : s.ms.length = u.n := hmn.symm
  generalize roundCn s = RR at *
  clear hmn
  obtain ⟨LF, hLF⟩ : ∃ LF, LF = freshCn s 255 := ⟨_, rfl⟩
  rw [← hLF] at hF hal hfr
  clear hLF
  have hno := fun U (hn : ¬ okCn s) (hb : Below w.heap.size w U) => ownedNo_any s v u U (h.on hb) hn
  have hclA := fun U (hn : okCn s) (hb : Below w.heap.size w U) => owned_any s v u U (h.on hb) hn
  unfold ResCn
  clear h
  obtain ⟨id, out, ms, life, want⟩ := s
  obtain ⟨A, n, c⟩ := v
  obtain ⟨B, m, d⟩ := u
  dsimp only [cCn] at *
  obtain ⟨kb, kr, bc⟩ := bx2 w #[.int .i64 id, .slice A n c, .slice B m d, .int .i64 life, .int .i64 want] #[.int .i64 0, .slice none 0 0, .slice none 0 0, .int .i64 0, .int .i64 0] 25 25
  obtain ⟨p0, p1, p2, p3, p4⟩ := kb.fiveI
  by_cases hok : okCn ⟨id, out, ms, life, want⟩
  rotate_left
  · obtain rfl := q0 hok
    have hnoB := fun U hb => hno U hok hb
    have HNO := Lib.hid hnoB; clear hnoB hno hclA hfr q3 hbd hal h4 hml
    go_enter Try.func27, Try.ntmps27
    go_upto_region 2 with (first | (go_at_call 42; refine (HNO.out _ bc).mono ?_; rintro e w1 ⟨rfl, hC⟩; dsimp only; clear p0 p1 p2 p3 p4; replace kb := kb.on hC; replace kr := kr.on hC; replace bc := bc.trans (hC.mono bc.size); clear hC; obtain ⟨p0, p1, p2, p3, p4⟩ := kb.fiveI))
    have kn := Blk.new w1 25 #[.int .i64 0, .slice none 0 0, .slice none 0 0, .int .i64 0, .int .i64 0]
    have al := Below.al w1 (.cells #[.int .i64 0, .slice none 0 0, .slice none 0 0, .int .i64 0, .int .i64 0] 25)
    have hgn := kr.lt
    clear p0 p1 p2 p3 p4
    replace kb := kb.on al; replace kr := kr.on al; replace bc := bc.trans (al.mono bc.size); clear al
    generalize w1.alloc (.cells #[.int .i64 0, .slice none 0 0, .slice none 0 0, .int .i64 0, .int .i64 0] 25) = u1 at *
    generalize w1.heap.size = gn at *
    clear w1
    obtain ⟨r0, r1, r2, r3, r4⟩ := kr.fiveI; obtain ⟨g0, g1, g2, g3, g4⟩ := kr.fiveFI
    go_wp2
    exact bodyPost_ret (v := .tuple #[.agg #[.int .i64 0, .slice none 0 0, .slice none 0 0, .int .i64 0, .int .i64 0], .int .i64 120]) (by simp [results, Try.results27, go_sem, r0, r1, r2, r3, r4]) rfl ⟨⟨none, 0, 0⟩, ⟨none, 0, 0⟩, rfl, CnFr.zero _ _, by repeat (first | refine Below.setCell ?_ (by dsimp only; omega) _ | exact bc)⟩
  have q3 := q3 hok; have hbd := hbd hok; have hal := fun l => hal l hok; have h4 := h4 hok; clear q0
  have hclB := fun U hb => hclA U hok hb
  have HCL := Lib.hid hclB; clear hclB hclA hno hok
  dsimp only at hbd h4 hml hal F hF
  obtain ⟨hb8, ⟨hl0, hl4⟩, hbg⟩ := hbd
  have hfy := fun U hb => hfr U (by omega) hb
  have HFR := Lib.hid hfy; have Q3 := Lib.hid q3; have HBG := Lib.hid hbg; have HAL := Lib.hid hal; have HF := Lib.hid hF
  clear hfr hfy q3 hbg hal hF
  refine (callsIn_wide (n := 5)).1 ?_
  refine callsIn_of_wp_marks Try.func27 rfl trivial ?_ rfl
  simp only [Try.ntmps27, List.size_toArray, List.length_cons, List.length_nil, Nat.reduceAdd, Nat.reduceSub, Array.replicate_succ, Array.replicate_zero, List.push_toArray, List.append_toArray, List.nil_append, List.cons_append]
  gi_wp2_with fail
  refine ⟨trivial, ?_⟩
  refine (callsIn_wide.2 (HCL.out _ bc)).mono ?_
  rintro e w1 ⟨⟨vA, vn, vc⟩, ⟨uA, un, uc⟩, l, rfl, hcl0, hC⟩
  dsimp only [cCn]
  clear p0 p1 p2 p3 p4
  replace kb := kb.on hC; replace kr := kr.on hC; have hcl := own_cl hcl0 bc.size; clear hcl0
  replace bc := bc.trans (hC.mono bc.size); clear hC
  obtain ⟨p0, p1, p2, p3, p4⟩ := kb.fiveI
  gi_upto_region 2 with fail
  have kn := Blk.new w1 25 #[.int .i64 id, .slice vA vn vc, .slice uA un uc, .int .i64 life, .int .i64 want]
  have al := Below.al w1 (.cells #[.int .i64 id, .slice vA vn vc, .slice uA un uc, .int .i64 life, .int .i64 want] 25)
  have hgn := kr.lt
  clear p0 p1 p2 p3 p4
  replace kb := kb.on al; replace kr := kr.on al; replace hcl := hcl.on al; replace bc := bc.trans (al.mono bc.size); clear al
  generalize w1.alloc (.cells #[.int .i64 id, .slice vA vn vc, .slice uA un uc, .int .i64 life, .int .i64 want] 25) = u1 at *
  generalize w1.heap.size = gn at *
  clear w1
  obtain ⟨p0, p1, p2, p3, p4⟩ := kb.fiveI
  gi_wp2_with fail
  refine ⟨trivial, ?_⟩
  refine (callsIn_wide.2 (HFR.out _ bc)).mono ?_
  rintro e w3 ⟨gb, rfl, hseq, hC⟩
  dsimp only
  clear p0 p1 p2 p3 p4 HFR HCL
  have hgl := kn.lt
  replace kn := kn.on hC; replace kr := kr.on hC; have hlo := hC.size
  obtain ⟨hl, hrow, hrd, hout⟩ := hcl
  have hun : l.length = un := by have h0 := hrow.1; rw [cellsM_length] at h0; dsimp only at h0; omega
  have hlm : ms.length = un := by have h1 := congrArg List.length hl; simp only [List.length_map] at h1; omega
  obtain ⟨gw, cap2, e2, hg2, hg3⟩ := hrow.form (by dsimp only; omega)
  dsimp only at e2 hrow hout
  injection e2 with e3 e4 e5
  subst e3 e5
  have hgw : gw < u1.heap.size := (own_frozenI hrow 0).2.2
  have hrow3 := own_on hrow hC
  have hrd3 := hrd.keep (ku_below hC)
  have hout3 := ku_below hC _ _ _ _ hout
  have hbc1 := bc.size
  replace bc := bc.trans (hC.mono bc.size)
  clear hrow hrd hout hC kb e4
  have hI : RoundI w w3.heap.size gn gw un ⟨id, out, ms, life, want⟩ ⟨vA, vn, vc⟩ uc [] w3 := ⟨l, aged_nil hl, hrow3, hrd3, hout3, kn, kr, bc, Nat.le_refl _⟩
  clear hl hrow3 hrd3 hout3 kn kr
  have hsq := hseq (Fin ms.length) Fin.val F (KpF u1.heap.size w3.heap.size) HF.out (fun X Y h => h) w3 (Below.refl _ _) (5 - 1) (by omega)
  have HSQ := Lib.hid hsq; have HI := Lib.hid hI; clear hsq hseq hI
  gi_wp2_with fail
  rename_i Q' K hK0
  have HK := Lib.hid hK0; clear hK0
  have hwh : w.heap.size ≤ w3.heap.size := bc.size
  refine wpIn_rangeFunc_ownG rfl (by omega) (gf := 45) (lb := #[.pointer (some ⟨gb, 0, none⟩)]) rfl trivial (enters_of Try.func45 (by kernel_rfl) rfl) HSQ.out (fun h k => h.trans k) (fun W l o o2 hl ho h1 h2 => kpF_put W _ hl) (Below.refl _ _) (fun _ => rfl)
    (fun (pre : List (Fin ms.length)) W => RoundI w w3.heap.size gn gw un ⟨id, out, ms, life, want⟩ ⟨vA, vn, vc⟩ uc (pre.map Fin.val) W)
    (fun cd pre W => False)
    (fun s X Y row hs hgr hr => roundI_kept hs hwh hgr hr)
    (fun cd s X Y row hs hgr hr => hs.elim)
    HI.out
    (fun x => { tmps := #[.agg #[.int .i64 id, .slice A n c, .slice B m d, .int .i64 life, .int .i64 want], .pointer (some ⟨w.heap.size, 0, none⟩), .pointer (some ⟨w.heap.size + 1, 0, none⟩), .int .i64 0, .pointer (some ⟨gn, 0, none⟩), .int .i64 0, .int .i64 (x.val : Int), .tuple #[.agg #[.int .i64 id, .slice vA vn vc, .slice (some ⟨gw, 0, none⟩) un uc, .int .i64 life, .int .i64 want], .int .i64 0], .agg #[.int .i64 id, .slice A n c, .slice B m d, .int .i64 life, .int .i64 want], .tuple #[.agg #[.int .i64 id, .slice vA vn vc, .slice (some ⟨gw, 0, none⟩) un uc, .int .i64 life, .int .i64 want], .int .i64 0], .agg #[.int .i64 id, .slice vA vn vc, .slice (some ⟨gw, 0, none⟩) un uc, .int .i64 life, .int .i64 want], .int .i64 0, .int .i64 0, .bool false, undef, undef, .agg #[.int .i64 id, .slice A n c, .slice B m d, .int .i64 life, .int .i64 want], .func (.func 45) #[] #[.pointer (some ⟨gb, 0, none⟩)], .int .i64 (x.val : Int), undef, undef, undef, undef, undef, undef, undef, undef, undef, undef, undef, undef, undef, undef, undef], defers := [] }) ?assign ?body ?done ?stop
  case assign =>
    intro l x W K hK
    gi_wp2
    exact hK
  case body =>
    rintro lp pre x W ⟨l, h1, h2, h3, h4, h5, h6, h7, h8⟩ hlt
    have hx := x.isLt
    have hxl : x.val < l.length := by rw [h1.1]; exact hx
    have hxu : (x.val : Int) < (un : Int) := by omega
    obtain ⟨y, hy, e0, e1⟩ := own_cellM h2 hxl
    have hag := aged_snoc h1 hy
    obtain ⟨z, hz, hyz⟩ := h1.2 _ _ hy
    have hzg := HBG.out z (List.mem_of_getElem? hz)
    have hcn : (pre.map Fin.val).count x.val ≤ 60 := Nat.le_trans List.count_le_length (by rw [List.length_map]; omega)
    have hyg : y.1.g = z.g + ((pre.map Fin.val).count x.val : Nat) := by rw [hyz]
    have hwr : IntKind.i64.wrap (y.1.g + 1) = y.1.g + 1 := IntWalk.i64_in _ (by omega)
    have ho9 := own_ageM h2 hy (y.1.g + 1)
    have fz := (own_frozenI h2 (x.val * 2 + 1)).1
    have hG := only_setCell (World.grownBy.refl W (some gw)) (p := ⟨gw, x.val * 2 + 1, none⟩) (.inl rfl) (.int .i64 (y.1.g + 1))
    have hku := ku_own h2 (by decide) hG
    have hyo := h3 _ (List.mem_of_getElem? hy)
    have hrd9 := (MsRd.set (j := x.val) (y := ((⟨y.1.d, y.1.g + 1⟩ : Ms), y.2)) (h3.keep hku) (hku _ _ _ _ hyo))
    have kn9 := h5.grown hG (fun e => own_ne_blkI h2 h5 (by decide) (by rw [e]; rfl))
    have kr9 := h6.grown hG (fun e => own_ne_blkI h2 h6 (by decide) (by rw [e]; rfl))
    have bc9 := Below.off h7 h7.size (by omega) hG
    have hI9 : RoundI w w3.heap.size gn gw un ⟨id, out, ms, life, want⟩ ⟨vA, vn, vc⟩ uc ((pre ++ [x]).map Fin.val) (W.setCell ⟨gw, x.val * 2 + 1, none⟩ (.int .i64 (y.1.g + 1))) := ⟨_, by rw [List.map_append]; exact hag, ho9, hrd9, hku _ _ _ _ h4, kn9, kr9, bc9, Nat.le_trans h8 hG.size⟩
    have HI9 := Lib.hid hI9
    obtain ⟨n0, n1, n2, n3, n4⟩ := h5.fiveI
    dsimp only at n0 n1 n2 n3 n4
    clear hI9 kn9 kr9 bc9 hrd9 hyo hku hG ho9 hag h1 h2 h3 h4 h6 h7 hyg hyz hcn hzg hz hy
    gi_wp2
    exact ⟨(KeepsOthers.setCell _ _ _).from _, kpF_set W _ (.inl hgw), HI9.out⟩
  case done =>
    rintro D ys W hD rfl ⟨l, h1, h2, h3, h4, h5, h6, h7, h8⟩ hK
    rw [HF.out] at h1
    have hlf := HAL.out l h1
    have hwl : IntKind.i64.wrap (life - 1) = life - 1 := IntWalk.i64_in _ (by omega)
    have hcl : ClOk w.heap.size W ⟨id, out, ms.map olderMs, max (life - 1) 0, want⟩ ⟨vA, vn, vc⟩ ⟨some ⟨gw, 0, none⟩, un, uc⟩ l := ⟨hlf, h2, h3, h4⟩
    have hG := only_setCell (World.grownBy.refl W (some gn)) (p := ⟨gn, 3, none⟩) (.inl rfl) (.int .i64 (max (life - 1) 0))
    have hcl4 := hcl.keep h5 (by decide) (by decide) hG
    have kr4 := h6.grown hG (some_ne (by omega))
    have bc4 := Below.off h7 h7.size (by omega) hG
    have hK4 : (W.setCell ⟨gn, 3, none⟩ (.int .i64 (max (life - 1) 0))).heap[D]? = some (.deferred (some [])) := (Below.heap_setCell _ _ _ D (by dsimp only; omega)).trans hK
    have kn4 : Blk (W.setCell ⟨gn, 3, none⟩ (.int .i64 (max (life - 1) 0))) gn 25 #[.int .i64 id, .slice vA vn vc, .slice (some ⟨gw, 0, none⟩) un uc, .int .i64 (max (life - 1) 0), .int .i64 want] := by simpa using h5.set_ 3 (.int .i64 (max (life - 1) 0))
    obtain ⟨n0, n1, n2, n3, n4⟩ := h5.fiveI
    obtain ⟨m0, m1, m2, m3, m4⟩ := h5.fiveFI
    dsimp only at n0 n1 n2 n3 n4
    have HCL4 := Lib.hid hcl4; have HK4 := Lib.hid hK4
    clear hcl4 hcl hG h1 h2 h3 h4 h6 h7 hlf hK hK4
    refine HK.out _ _ ?_
    gi_upto_region 8 with fail
    rw [show (if life - 1 < 0 then (0 : Int) else life - 1) = max (life - 1) 0 by split <;> omega]
    clear n0 n1 n2 n3 n4 m0 m1 m2 m3 m4 h5 hwl
    generalize W.setCell ⟨gn, 3, none⟩ (.int .i64 (max (life - 1) 0)) = U at *
    obtain rfl := Q3.out
    obtain ⟨lf, hlfe⟩ : ∃ lf, lf = max (life - 1) 0 := ⟨_, rfl⟩
    rw [← hlfe] at kn4
    have HLF := Lib.hid hlfe; clear hlfe
    obtain ⟨n0, n1, n2, n3, n4⟩ := kn4.fiveI
    obtain ⟨r0, r1, r2, r3, r4⟩ := kr4.fiveI
    obtain ⟨g0, g1, g2, g3, g4⟩ := kr4.fiveFI
    have hG5 := grown5I U (w.heap.size + 1) (.int .i64 id) (.slice vA vn vc) (.slice (some ⟨gw, 0, none⟩) un uc) (.int .i64 lf) (.int .i64 want)
    have kr5 := kr4.put5I (.int .i64 id) (.slice vA vn vc) (.slice (some ⟨gw, 0, none⟩) un uc) (.int .i64 lf) (.int .i64 want)
    have hcl5 := HCL4.out.keep kr4 (by decide) (by decide) hG5
    have bc5 := Below.off bc4 bc4.size (by omega) hG5
    have hKd := (hG5.block D (Array.getElem?_eq_some_iff.1 HK4.out).1 (fun e => by injection e with e; omega)).trans HK4.out
    have HCL5 := Lib.hid hcl5; have HKD := Lib.hid hKd
    clear hcl5 hKd hG5 kn4 kr4 bc4 HCL4 HK4
    gi_wp2
    clear n0 n1 n2 n3 n4 r0 r1 r2 r3 r4 g0 g1 g2 g3 g4
    generalize (((((U.setCell ⟨w.heap.size + 1, 0, none⟩ (.int .i64 id)).setCell ⟨w.heap.size + 1, 1, none⟩ (.slice vA vn vc)).setCell ⟨w.heap.size + 1, 2, none⟩ (.slice (some ⟨gw, 0, none⟩) un uc)).setCell ⟨w.heap.size + 1, 3, none⟩ (.int .i64 lf)).setCell ⟨w.heap.size + 1, 4, none⟩ (.int .i64 want)) = X at *
    refine ⟨by simp, .inl ⟨_, _, rfl, run_takeDeferred HKD.out, ?_⟩⟩
    have hP := grownBy_putObj' X D (.deferred none)
    have hr : ∀ r, some D = some r → ∃ o : Obj, X.heap[r]? = some o ∧ o.isCells = false := fun r e => by
      injection e with e
      subst e
      exact ⟨_, HKD.out, rfl⟩
    have kr6 := blk_keepO kr5 hP hr
    obtain ⟨j1, j2, j3, j4⟩ := HCL5.out
    have hcl6 : ClOk w.heap.size (X.putObj D (.deferred none)) ⟨id, out, ms.map olderMs, max (life - 1) 0, want⟩ ⟨vA, vn, vc⟩ ⟨some ⟨gw, 0, none⟩, un, uc⟩ l := ⟨j1, own_keepO j2 hP hr, j3.keep (ku_keepO hP hr), ku_keepO hP hr _ _ _ _ j4⟩
    have bc6 : Below w.heap.size w (X.putObj D (.deferred none)) := bc5.grown hP bc5.size (fun q e => by injection e with e; omega)
    obtain ⟨r0, r1, r2, r3, r4⟩ := kr6.fiveI
    clear hP hr j1 j2 j3 j4 kr5 bc5
    generalize X.putObj D (.deferred none) = Y at *
    exact ⟨.tuple #[.agg #[.int .i64 id, .slice vA vn vc, .slice (some ⟨gw, 0, none⟩) un uc, .int .i64 lf, .int .i64 want], .int .i64 0], by simp [results, Try.results27, go_sem, r0, r1, r2, r3, r4], ⟨vA, vn, vc⟩, ⟨some ⟨gw, 0, none⟩, un, uc⟩, by rw [HLF.out], ClOk.fr hcl6, bc6⟩
  case stop =>
    rintro D cd pre W hD ⟨q, hq, hpre⟩ hf hK
    exact hf.elim
end Go.Proofs.Ytnlmpemfpkmodaa
