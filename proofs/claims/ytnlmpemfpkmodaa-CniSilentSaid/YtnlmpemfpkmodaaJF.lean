/-
  The slots whose message is fresh: found, and gone through; of package cni. Condition: an interface that can be read, of few messages. (Printed by tools/gen12jf.py.)
-/
import Derived.Test.YtnlmpemfpkmodaaJE
namespace Go.Proofs.Ytnlmpemfpkmodaa
open Go.RowKit Go.Shelf
attribute [local go_sem] Oper.semAt_some

/-- What lies in blocks from lo up to hi is as it was. -/
def KpF (lo hi : Nat) (a b : World) : Prop := ∀ k, lo ≤ k → k < hi → b.heap[k]? = a.heap[k]?
theorem KpF.trans {lo hi : Nat} {a b c : World} (h : KpF lo hi a b) (k : KpF lo hi b c) : KpF lo hi a c := fun i h1 h2 => (k i h1 h2).trans (h i h1 h2)
theorem kpF_below {lo hi : Nat} {a b : World} (h : Below hi a b) : KpF lo hi a b := fun i _ h2 => h.block i h2
theorem kpF_put {lo hi : Nat} (W : World) {l : Nat} (o : Obj) (h : hi ≤ l) : KpF lo hi W (W.putObj l o) := fun i _ h2 => World.putObj_heap_other (fun e => by omega)
theorem kpF_set {lo hi : Nat} (W : World) {g i : Nat} (v : Value) (h : g < lo ∨ hi ≤ g) : KpF lo hi W (W.setCell ⟨g, i, none⟩ v) := fun k h1 h2 => Below.heap_setCell _ _ _ k (by dsimp only; omega)
/-- Numbers at A, in a block from lo up to hi. -/
def IntsF (lo hi : Nat) (W : World) (A : Option Addr) (L : List Nat) : Prop := L ≠ [] → ∃ b off, A = some ⟨b, off, none⟩ ∧ lo ≤ b ∧ b < hi ∧ ∀ j, j < L.length → W.cell? ⟨b, off + j, none⟩ = some (.int .i64 ((L[j]?.getD 0 : Nat) : Int))
theorem IntsF.keep {lo hi : Nat} {W W' : World} {A : Option Addr} {L : List Nat} (h : IntsF lo hi W A L) (k : KpF lo hi W W') : IntsF lo hi W' A L := fun hne => by
  obtain ⟨b, off, e, h1, h2, hc⟩ := h hne
  refine ⟨b, off, e, h1, h2, fun j hj => ?_⟩
  rw [← hc j hj]
  have := k b h1 h2
  unfold World.cell?
  dsimp only
  rw [this]
theorem IntsF.own {w : World} {base n c : Nat} {A : Option Addr} {l : List Nat} (h : w.ownsRow base 3 1 (.slice A n c) n (valsI l)) : IntsF base w.heap.size w A l := fun hne => by
  have hk : l.length = n := by have := h.1; simpa [valsI] using this
  rcases h.2 with ⟨h1, h0⟩ | ⟨g, cap, cur, h1, h2, hh, -⟩
  · exact absurd (List.eq_nil_of_length_eq_zero (hk.trans h0)) hne
  · injection h1 with h5 h6 h7
    subst h5
    refine ⟨g, 0, rfl, h2, (Array.getElem?_eq_some_iff.1 hh).1, fun j hj => ?_⟩
    have := h.cells (g := g) rfl j (.int .i64 ((l[j]?.getD 0 : Nat) : Int)) (by simp [valsI, hj])
    rwa [addr_add] at this
theorem IntsF.at_ {lo hi : Nat} {W : World} {A : Option Addr} {L : List Nat} (h : IntsF lo hi W A L) {k : Nat} (hk : k < L.length) : ∃ b off, A = some ⟨b, off, none⟩ ∧ W.cell? ⟨b, off + k, none⟩ = some (.int .i64 ((L[k]?.getD 0 : Nat) : Int)) := by
  obtain ⟨b, off, e, _, _, hc⟩ := h (by rintro rfl; exact absurd hk (Nat.not_lt_zero _))
  exact ⟨b, off, e, hc k hk⟩
theorem take_snocA {α : Type} {L : List α} {k : Nat} {x : α} (h : L[k]? = some x) : L.take (k + 1) = L.take k ++ [x] := by
  rw [List.take_add_one, h]; rfl
set_option maxRecDepth 100000 in
set_option maxHeartbeats 2000000 in
theorem fresh1_in {α : Type} (val : α → Nat) (n lp gb lo hi cap : Nat) (hn : 1 ≤ n) (L : List α) (hL : L.length ≤ 60) (A : Option Addr) (Kp : World → World → Prop) (hKp : ∀ X Y, Kp X Y → KpF lo hi X Y) (J Jx : List α → World → Prop) (W : World)
    (hY : ∀ (pre : List α) (x : α) (W1 : World), J pre W1 → pre.length < 60 → YieldAt Fence.wide (n - 1) Try.prog lp #[.int .i64 (val x : Int)] W1 fun e W' =>
      (e = .returned (.bool true) ∧ J (pre ++ [x]) W' ∧ Kp W1 W') ∨ (e = .returned (.bool false) ∧ Jx (pre ++ [x]) W'))
    (hbox : Blk W gb 42 #[.slice A L.length cap]) (hI : IntsF lo hi W A (L.map val)) (h0 : J [] W) :
    CallsIn Fence.wide n Try.prog 45 #[.func (.yield lp) #[] #[], .pointer (some ⟨gb, 0, none⟩)] W fun e W' => (∃ v, e = .returned v) ∧
      ((∃ ys, ys = L ∧ J ys W') ∨ (∃ pre, (∃ k, k ≤ L.length ∧ pre = L.take k) ∧ Jx pre W')) := by
  have HY := Lib.hid hY; clear hY
  have H0 := Lib.hid h0; clear h0
  have HI := Lib.hid hI; clear hI
  have HKP := Lib.hid hKp; clear hKp
  obtain ⟨c1, -⟩ := hbox.one
  obtain ⟨ln, hln⟩ : ∃ ln, ln = L.length := ⟨_, rfl⟩
  rw [← hln] at c1 hL
  have HLN := Lib.hid hln; clear hln hbox
  refine callsIn_of_wp Try.func45 rfl trivial ?_ rfl
  simp only [Try.ntmps45, List.size_toArray, List.length_cons, List.length_nil, Nat.reduceAdd, Nat.reduceSub, Array.replicate_succ, Array.replicate_zero, List.push_toArray, List.append_toArray, List.nil_append, List.cons_append]
  gi_wp2
  gi_loopw [4, 7] (fun _ i wr => ∃ k : Nat, k ≤ ln ∧ i = .int .i64 k ∧ J (L.take k) wr ∧ IntsF lo hi wr A (L.map val))
    (fun _ i _ => ln - (intOf i).toNat)
  case atStart => exact ⟨0, Nat.zero_le _, rfl, H0.out, HI.out⟩
  case round =>
    obtain ⟨k, hk, rfl, hJs, hIs⟩ := hrel
    by_cases hlt : k < ln
    · have hlt2 : (k : Int) < (ln : Int) := by omega
      obtain ⟨b, off, rfl, hc⟩ := hIs.at_ (k := k) (by have := HLN.out; rw [List.length_map]; omega)
      obtain ⟨x, hx⟩ : ∃ x, L[k]? = some x := ⟨L[k]'(by have := HLN.out; omega), by simp⟩
      have hsn := take_snocA hx
      have hlen : (L.take k).length < 60 := by rw [List.length_take]; omega
      rw [show (L.map val)[k]?.getD 0 = val x by rw [List.getElem?_map, hx]; rfl] at hc
      have HSN := Lib.hid hsn; clear hsn hx
      have HIS := Lib.hid hIs; clear hIs
      gi_wp2_with fail
      obtain ⟨fn, tmps, assign, body, hy, hR⟩ := HY.out (L.take k) x wr hJs hlen
      first | rw [hy] | (dsimp only at hy; rw [hy]) | (simp only [] at hy; rw [hy])
      gi_wp2_with fail
      refine hR.mono ?_
      rintro e W3 (⟨rfl, hJ3, hB3⟩ | ⟨rfl, hJx3⟩)
      · gi_wp2
        go_roundw
        case rel => exact ⟨k + 1, by omega, by go_num, by rw [HSN.out]; exact hJ3, HIS.out.keep (HKP.out _ _ hB3)⟩
        case measure => simp [intOf]; omega
      · gi_wp2
        refine bodyPost_ret (results_none rfl _ _ _) rfl ?_
        exact ⟨⟨_, rfl⟩, .inr ⟨_, ⟨k + 1, by have := HLN.out; omega, HSN.out.symm⟩, hJx3⟩⟩
    · obtain rfl : k = ln := by omega
      have hfin : L.take k = L := List.take_of_length_le (by have := HLN.out; omega)
      rw [hfin] at hJs
      gi_wp2
      go_end0
      exact ⟨⟨_, rfl⟩, .inl ⟨_, rfl, hJs⟩⟩
set_option maxRecDepth 100000 in
set_option maxHeartbeats 4000000 in
theorem freshL_any (s : Cn) (v u : Sl3) (q : Int) (w : World) (h : CnOk w.heap.size w s v u) (hm : u.n ≤ 60) : Calls Try.prog 44 #[.agg (cCn s v u), .int .i64 q] w fun e w' => ∃ A2 c2, e = .returned (.slice A2 (freshCn s q).length c2) ∧ w'.ownsRow w.heap.size 3 1 (.slice A2 (freshCn s q).length c2) (freshCn s q).length (valsI (freshCn s q)) ∧ Below w.heap.size w w' := by
  have hck := fun U (hb : Below w.heap.size w U) => chkCnP_any s v u U (h.on hb)
  have q0 : ¬ okCn s → freshCn s q = freshTo s q 0 := fun h => by unfold freshCn; rw [if_neg h]; rfl
  have q3 : okCn s → freshCn s q = freshTo s q u.n := fun h2 => by unfold freshCn; rw [if_pos h2, h.mn]
  have hM := h.ms
  have hmn := h.mn
  generalize freshCn s q = RR at *
  have hce := @chkCn_zero s
  have hms := fun (k : Nat) (h : isFresh (s.ms[k]?.getD default) q = true) => freshTo_yes h
  have hmx := fun (k : Nat) (h : isFresh (s.ms[k]?.getD default) q = false) => freshTo_no h
  have hml := freshTo_length s q
  have hM0 := freshTo_zero s q
  clear h
  obtain ⟨id, out, ms, life, want⟩ := s
  obtain ⟨A, n, c⟩ := v
  obtain ⟨B, m, d⟩ := u
  dsimp only [cCn] at *
  generalize hS : (⟨id, out, ms, life, want⟩ : Cn) = S at *
  clear hS
  generalize freshTo S q = MT at *
  generalize okCn S = ok at *
  generalize chkCn S = er at *
  obtain ⟨i0, hi, hz0, hz1, hz2⟩ := info_parts Try.infoIn
  have HMS := Lib.hid hms; have HMX := Lib.hid hmx; have HML := Lib.hid hml; have HM0 := Lib.hid hM0; have HN := Lib.hid hmn; have HM := Lib.hid hM; have HCK := Lib.hid hck; have HCE := Lib.hid hce; have Q0 := Lib.hid q0; have Q3 := Lib.hid q3; clear hms hmx hml hM0 hmn hM hck hce q0 q3
  obtain ⟨kb, bc⟩ := bx1 w #[.int .i64 id, .slice A n c, .slice B m d, .int .i64 life, .int .i64 want] 25
  obtain ⟨p0, p1, p2, p3, p4⟩ := kb.fiveI
  by_cases hok : ok
  rotate_left
  · have hne : (er != 0) = true := by
      have : ¬ er = 0 := fun h => hok (HCE.out.1 h)
      simpa using this
    obtain rfl := Q0.out hok
    rw [HM0.out]
    have hz := World.ownsRow_nil
    go_enter Try.func44, Try.ntmps44
    go_wp2_with (first | (go_at_call 13; refine (HCK.out _ bc).mono ?_; rintro e w3 ⟨rfl, hC⟩; dsimp only; clear p0 p1 p2 p3 p4; replace kb := kb.on hC; replace bc := bc.trans (hC.mono bc.size); clear hC; obtain ⟨p0, p1, p2, p3, p4⟩ := kb.fiveI))
    go_ret
    exact ⟨none, 0, rfl, World.ownsRow_nil _ _ _ _, bc⟩
  obtain rfl : er = 0 := HCE.out.2 hok
  obtain rfl := Q3.out hok
  go_enter Try.func44, Try.ntmps44
  go_wp2_with (first | (go_at_call 13; refine (HCK.out _ bc).mono ?_; rintro e w3 ⟨rfl, hC⟩; dsimp only; clear p0 p1 p2 p3 p4; replace kb := kb.on hC; replace bc := bc.trans (hC.mono bc.size); clear hC; obtain ⟨p0, p1, p2, p3, p4⟩ := kb.fiveI))
  clear p0 p1 p2 p3 p4
  go_loopw [5, 14] (fun s5 i wr => ∃ (k : Nat) (A2 : Option Addr) (c2 : Nat), k ≤ m ∧ i = .int .i64 k ∧ s5 = .slice A2 (MT k).length c2 ∧ wr.ownsRow w.heap.size 3 1 (.slice A2 (MT k).length c2) (MT k).length (valsI (MT k)) ∧ Blk wr w.heap.size 25 #[.int .i64 id, .slice A n c, .slice B m d, .int .i64 life, .int .i64 want] ∧ Below w.heap.size w wr)
    (fun _ i _ => m - (intOf i).toNat)
  case atStart => exact ⟨0, none, 0, by omega, rfl, by rw [HM0.out]; rfl, by rw [HM0.out]; exact World.ownsRow_nil _ _ _ _, kb, bc⟩
  case round =>
    clear kb bc
    obtain ⟨k, A2, c2, hk, rfl, rfl, hrow, kb, bc⟩ := hrel
    have hlen := HML.out k
    by_cases hlt : k < m
    rotate_left
    · obtain rfl : k = m := by omega
      have HR := Lib.hid hrow; clear hrow hlen
      go_wp2
      go_ret
      exact ⟨A2, c2, rfl, HR.out, bc⟩
    have hlt2 : (k : Int) < (m : Int) := by omega
    obtain ⟨b, off, rfl, hb, ⟨vA, vn, vc⟩, ⟨c0, c1⟩, hv⟩ := (HM.out.below bc).at_ (k := k) (by have := HN.out; omega)
    have hs := HMS.out k; have hf := HMX.out k
    unfold isFresh at hs hf
    dsimp only at c0
    generalize (ms[k]?.getD default).g = g at *
    have HS := Lib.hid hs; have HF := Lib.hid hf; clear hs hf hv
    have km := Blk.new wr 51 #[.slice vA vn vc, .int .i64 g]
    have al := Below.al wr (.cells #[.slice vA vn vc, .int .i64 g] 51)
    have kb9 := kb.on al; have hrow9 := own_on hrow al; have bc9 := bc.trans (al.mono bc.size)
    have hgm := kb.lt
    clear al
    go_upto_region 7 with fail
    clear c0 c1 kb bc hrow hb
    generalize wr.alloc (.cells #[.slice vA vn vc, .int .i64 g] 51) = w6 at *
    generalize wr.heap.size = gm at *
    obtain ⟨y0, y1, -, -⟩ := km.two
    have kb := kb9; have bc := bc9; have hrow := hrow9; clear kb9 bc9 hrow9
    have hz := kb.lt
    by_cases e1 : g ≤ q
    rotate_left
    · have d1 : decide (g ≤ q) = false := by simp; omega
      have HR := Lib.hid hrow; clear hrow hlen
      go_wp2
      go_roundw
      case rel => exact ⟨k + 1, A2, c2, by omega, by go_num, by rw [HF.out (by simp; omega)], by rw [HF.out (by simp; omega)]; exact HR.out, kb, bc⟩
      case measure => simp [intOf]; omega
    have d1 : decide (g ≤ q) = true := by simp; omega
    by_cases e2 : g < 255
    rotate_left
    · have d2 : decide (g < 255) = false := by simp; omega
      have HR := Lib.hid hrow; clear hrow hlen
      go_wp2
      go_roundw
      case rel => exact ⟨k + 1, A2, c2, by omega, by go_num, by rw [HF.out (by simp; omega)], by rw [HF.out (by simp; omega)]; exact HR.out, kb, bc⟩
      case measure => simp [intOf]; omega
    have d2 : decide (g < 255) = true := by simp; omega
    have hms1 := HS.out (by simp; omega)
    have HMS1 := Lib.hid hms1; clear hms1
    have kN := Blk.new w6 3 #[.int .i64 (k : Int)]
    have al := Below.al w6 (.cells #[.int .i64 (k : Int)] 3)
    have kb4 := kb.on al; have hrow4 := own_on hrow al; have bc4 := bc.trans (al.mono bc.size)
    clear hrow al
    generalize hML2 : (MT k).length = lk at *
    have HL2 := Lib.hid hML2; clear hML2
    go_upto_region 9 with (at_builtin; refine wpList_append_lies _ rfl (.tmp 28) (.tmp 30) 42 rfl w.heap.size 3 i0 (.int .i64 0) 1 8 Try.underlying42 hi hz0 hz1 hz2 rfl (by decide) (.slice A2 lk c2) lk (valsI (MT k)) rfl hrow4 ⟨w6.heap.size, 0, none⟩ 1 1 [.int .i64 (k : Int)] rfl (by rfl) (World.news_of_block kN) (by simp [Value.oneCell']) (by decide) (by unfold maxLen; omega) (by omega) (by simp; omega) _ rfl ?_; intro g5 cap5 w5 hown5 hgrow5 hat5 hlt5)
    have kb5 := kb4.grown hgrow5 (own_ne_blkI hrow4 kb4 (by decide))
    have bc5 := bc4.grown hgrow5 bc4.size (fun i ei => Nat.le_trans (by omega) (hrow4.lt i ei).1)
    rw [show valsI (MT k) ++ [Value.int .i64 (k : Int)] = valsI (MT (k + 1)) by rw [HMS1.out]; simp [valsI]] at hown5
    have hl6 : (MT (k + 1)).length = lk + 1 := by rw [HMS1.out, List.length_append, HL2.out]; rfl
    have HR6 := Lib.hid hown5; have HL6 := Lib.hid hl6
    clear hown5 hgrow5 kb4 hrow4 bc4 kb bc kN hat5 hlt5 hl6 hlen
    go_wp2_with fail
    go_roundw
    case rel => exact ⟨k + 1, some ⟨g5, 0, none⟩, cap5, by omega, by go_num, by rw [HL6.out], by rw [HL6.out]; exact HR6.out, kb5, bc5⟩
    case measure => simp [intOf]; omega
set_option maxRecDepth 100000 in
set_option maxHeartbeats 4000000 in
theorem freshG_any (s : Cn) (v u : Sl3) (q : Int) (w : World) (h : CnOk w.heap.size w s v u) (hm : u.n ≤ 60) : Calls Try.prog 32 #[.agg (cCn s v u), .int .i64 q] w fun e w' => ∃ gb, e = .returned (.func (.func 45) #[] #[.pointer (some ⟨gb, 0, none⟩)]) ∧ (∀ (α : Type) (val : α → Nat) (L : List α) (Kp : World → World → Prop), L.map val = freshCn s q → (∀ X Y, Kp X Y → KpF w.heap.size w'.heap.size X Y) → ∀ w2, Below w'.heap.size w' w2 → ∀ n, 1 ≤ n → SeqStopsK Fence.wide n Try.prog 45 #[.pointer (some ⟨gb, 0, none⟩)] (fun x => #[.int .i64 ((val x : Nat) : Int)]) Kp (fun ys => ys = L) (fun pre => ∃ k, k ≤ L.length ∧ pre = L.take k) 60 w2) ∧ Below w.heap.size w w' := by
  have hfr := fun U (hb : Below w.heap.size w U) => freshL_any s v u q U (h.on hb) (by omega)
  have hln : (freshCn s q).length ≤ 60 := by
    unfold freshCn
    split
    · have := freshTo_length s q s.ms.length; have := h.mn; omega
    · simp
  generalize freshCn s q = RR at *
  clear h hm
  obtain ⟨id, out, ms, life, want⟩ := s
  obtain ⟨A, n, c⟩ := v
  obtain ⟨B, m, d⟩ := u
  dsimp only [cCn] at *
  have HFR := Lib.hid hfr; have HLN := Lib.hid hln; clear hfr hln
  obtain ⟨kb, bc⟩ := bx1 w #[.int .i64 id, .slice A n c, .slice B m d, .int .i64 life, .int .i64 want] 25
  obtain ⟨p0, p1, p2, p3, p4⟩ := kb.fiveI
  go_enter Try.func32, Try.ntmps32
  go_upto_region 2 with (first | (go_at_call 44; refine (HFR.out _ bc).mono ?_; rintro e w1 ⟨A2, c2, rfl, hrow, hC⟩; dsimp only; clear p0 p1 p2 p3 p4; have hrow2 := own_mono hrow bc.size; clear hrow; replace kb := kb.on hC; replace bc := bc.trans (hC.mono bc.size); clear hC; obtain ⟨p0, p1, p2, p3, p4⟩ := kb.fiveI))
  have kf := Blk.new w1 42 #[.slice A2 RR.length c2]
  have al := Below.al w1 (.cells #[.slice A2 RR.length c2] 42)
  have hrow3 := own_on hrow2 al
  replace bc := bc.trans (al.mono bc.size)
  clear al hrow2 kb p0 p1 p2 p3 p4
  generalize w1.alloc (.cells #[.slice A2 RR.length c2] 42) = u1 at *
  generalize w1.heap.size = gf at *
  clear w1
  have hfin : ∀ (α : Type) (val : α → Nat) (L : List α) (Kp : World → World → Prop), L.map val = RR → (∀ X Y, Kp X Y → KpF w.heap.size u1.heap.size X Y) → ∀ w2, Below u1.heap.size u1 w2 → ∀ n, 1 ≤ n → SeqStopsK Fence.wide n Try.prog 45 #[.pointer (some ⟨gf, 0, none⟩)] (fun x => #[.int .i64 ((val x : Nat) : Int)]) Kp (fun ys => ys = L) (fun pre => ∃ k, k ≤ L.length ∧ pre = L.take k) 60 w2 := by
    have hI := IntsF.own hrow3
    intro α val L Kp hv hKp w2 hD n hq
    have hll : L.length = RR.length := by rw [← hv, List.length_map]
    rw [← hll] at kf
    rw [← hv] at hI
    exact fun lp J Jx W hW hJ _ hY h0 => fresh1_in val n lp gf w.heap.size u1.heap.size c2 hq L (by have := HLN.out; omega) A2 Kp hKp J Jx W hY ((kf.on hD).below hW (kf.on hD).lt) ((hI.keep (kpF_below hD)).keep (kpF_below (hW.mono hD.size))) h0
  have HFIN := Lib.hid hfin; clear hfin hrow3 kf
  go_wp2
  go_ret
  exact ⟨gf, rfl, HFIN.out, bc⟩
theorem freshP_any : CniFreshC := fun s v u q w h hm => by
  refine (freshG_any s v u q w h (by omega)).mono ?_
  rintro e w' ⟨gb, rfl, hs, hB⟩
  exact ⟨45, _, rfl, enters_of Try.func45 (by kernel_rfl) rfl, fun w2 hD n hn => hs Nat (fun x => x) (freshCn s q) (fun a b => Below w'.heap.size a b) (by simp) (fun X Y h => kpF_below h) w2 hD n hn, hB⟩
end Go.Proofs.Ytnlmpemfpkmodaa
