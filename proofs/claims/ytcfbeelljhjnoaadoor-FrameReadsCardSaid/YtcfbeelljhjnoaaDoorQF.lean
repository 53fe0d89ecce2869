/-
  All of package bits tells the places and bits, rising, and nothing of bits that may not be. No condition but that the bytes can be read.
  Text of package bits answers a digit for each bit, and the empty text for bits that may not be. No condition but that the bytes can be read.
  What stands behind two numbers that were put is as the document says. No condition.
-/
import Derived.Test.YtcfbeelljhjnoaaDoorQA
import Derived.RangeFuncNested
import Derived.RangeFuncBound
import Derived.RangeFuncCalls
import Derived.RangeFuncLeaves
import Derived.RangeFuncBox
import Derived.Shelf.Abstract
import Derived.Shelf.RegionOpen
import Derived.OwnWalkIn
import Derived.TacticsInMore
import Derived.LoopNIn
import Derived.LoopIn
import Derived.Maps.AppendAt
namespace Go.Proofs.YtcfbeelljhjnoaaDoor
open Go.RowKit Go.Shelf
attribute [local go_sem] Oper.semAt_some

/-- What has come when k rounds are over. -/
def upto (l : List Bool) (k : Nat) : List (Nat × Bool) := (List.range k).map fun j => (j, l[j]?.getD false)
theorem upto_succ (l : List Bool) (k : Nat) : upto l (k + 1) = upto l k ++ [(k, l[k]?.getD false)] := by simp [upto, List.range_succ]
theorem upto_length (l : List Bool) (k : Nat) : (upto l k).length = k := by simp [upto]
theorem upto_snd (l : List Bool) : (upto l l.length).map (·.2) = l := by
  apply List.ext_getElem
  · simp [upto]
  · intro i h1 h2; simp [upto, h2]

/-- What a round must keep: the iterator's own row and box. -/
def Keeps2 (g ob : Nat) (W W' : World) : Prop := W'.heap[g]? = W.heap[g]? ∧ W'.heap[ob]? = W.heap[ob]?
theorem Keeps2.trans {g ob : Nat} {A B C : World} (h : Keeps2 g ob A B) (k : Keeps2 g ob B C) : Keeps2 g ob A C := ⟨k.1.trans h.1, k.2.trans h.2⟩
theorem Keeps2.refl (g ob : Nat) (A : World) : Keeps2 g ob A A := ⟨rfl, rfl⟩
theorem keeps2_b {g ob : Nat} {w : World} (hg : g < w.heap.size) (ho : ob < w.heap.size) (W : World) (l : Nat) (o o' : Obj) (hl : w.heap.size ≤ l) (_ : W.heap[l]? = some o) (_ : o.isCells = false) (_ : o.isWalk = false) : Keeps2 g ob W (W.putObj l o') :=
  ⟨World.putObj_heap_other (by omega), World.putObj_heap_other (by omega)⟩

set_option maxRecDepth 100000 in
set_option maxHeartbeats 2000000 in
theorem all2_in (n lp g ob m : Nat) (hn : 1 ≤ n) (l : List Bool) (bs : List UInt8) (his : IsBits l bs) (hl : l.length ≤ 4096) (hm : m = bs.length) (J Jx : List (Nat × Bool) → World → Prop) (W : World)
    (hJ : AbidesFrom W.heap.size J)
    (hY : ∀ pre x W1, J pre W1 → pre.length < l.length → YieldAt Fence.wide (n - 1) Tryd.prog lp #[.int .i64 (x.1 : Int), .bool x.2] W1 fun e W' =>
      (e = .returned (.bool true) ∧ J (pre ++ [x]) W' ∧ Keeps2 g ob W1 W') ∨ (e = .returned (.bool false) ∧ Jx (pre ++ [x]) W'))
    (hrow : Blk W g 5 (encB bs)) (hbox : Blk W ob 28 #[.int .i64 (l.length : Int), .slice (some ⟨g, 0, none⟩) m m]) (h0 : J [] W) :
    CallsIn Fence.wide n Tryd.prog 85 #[.func (.yield lp) #[] #[], .pointer (some ⟨ob, 0, none⟩)] W fun e W' => (∃ v, e = .returned v) ∧
      ((∃ ys, ys = upto l l.length ∧ J ys W') ∨ (∃ pre, (∃ k, k ≤ l.length ∧ pre = upto l k) ∧ Jx pre W')) := by
  have HIS := Lib.hid his; clear his
  have HM := Lib.hid hm; clear hm
  have HJ := Lib.hid hJ; clear hJ
  have HY := Lib.hid hY; clear hY
  have H0 := Lib.hid h0; clear h0
  obtain ⟨c1, c2, f1, f2⟩ := hbox.two
  refine callsIn_of_wp Tryd.func85 rfl trivial ?_ rfl
  simp only [Tryd.ntmps85, List.size_toArray, List.length_cons, List.length_nil, Nat.reduceAdd, Nat.reduceSub, Array.replicate_succ, Array.replicate_zero, List.push_toArray, List.append_toArray, List.nil_append, List.cons_append]
  gi_wp2
  gi_loopw [6] (fun i wr => ∃ k : Nat, k ≤ l.length ∧ i = .int .i64 k ∧ J (upto l k) wr ∧ Blk wr g 5 (encB bs) ∧ Blk wr ob 28 #[.int .i64 (l.length : Int), .slice (some ⟨g, 0, none⟩) m m])
    (fun i _ => l.length - (intOf i).toNat)
  case atStart => exact ⟨0, Nat.zero_le _, rfl, H0.out, hrow, hbox⟩
  case round =>
    obtain ⟨k, hk, rfl, hJs, r1, r2⟩ := hrel
    obtain ⟨c3, c4, f3, f4⟩ := r2.two
    by_cases hlt : k < l.length
    · have hone := isOne_any l.length k (some ⟨g, 0, none⟩) m m bs wr (by omega) (by omega) HM.out (by have := HIS.out.1; omega) (byt_of_blk r1)
      rw [Int.toNat_natCast, HIS.out.2] at hone
      obtain ⟨bk, hbk⟩ : ∃ bk, bk = l[k]?.getD false := ⟨_, rfl⟩
      rw [← hbk] at hone
      have HO := Lib.hid hone; have HBK := Lib.hid hbk; clear hone hbk
      gi_wp2_with (refine ⟨trivial, ?_⟩; gi_at_call 72; refine (callsIn_wide.2 HO.out).mono ?_; rintro e w3 ⟨rfl, hb3⟩; obtain ⟨fn, tmps, assign, body, hy, hR⟩ := HY.out (upto l k) (k, bk) w3 (HJ.out _ _ _ none hJs (only_of_below hb3 none) (fun r e => by cases e)) (by rw [upto_length]; exact hlt); dsimp only at hy)
      refine hR.mono ?_
      rintro e W3 (⟨rfl, hJ3, hk3⟩ | ⟨rfl, hJx3⟩)
      · gi_wp2
        go_roundw
        case rel =>
          refine ⟨k + 1, by omega, by go_num, by rw [upto_succ, ← HBK.out]; exact hJ3, ?_, ?_⟩
          · exact hk3.1.trans (r1.below hb3 r1.lt)
          · exact hk3.2.trans (r2.below hb3 r2.lt)
        case measure => simp [intOf]; omega
      · gi_wp2
        refine bodyPost_ret (results_none rfl _ _ _) rfl ?_
        exact ⟨⟨_, rfl⟩, .inr ⟨_, ⟨k + 1, by omega, by rw [upto_succ, ← HBK.out]⟩, hJx3⟩⟩
    · obtain rfl : k = l.length := by omega
      gi_wp2
      go_end0
      exact ⟨⟨_, rfl⟩, .inl ⟨_, rfl, hJs⟩⟩

abbrev enc2 (x : Nat × Bool) : Array Value := #[Value.int .i64 (x.1 : Int), .bool x.2]
/-- A sequence that tells l. -/
abbrev Tells (n gf : Nat) (lb : Array Value) (g ob : Nat) (l : List Bool) (w : World) : Prop :=
  SeqStopsK Fence.wide n Tryd.prog gf lb enc2 (Keeps2 g ob) (fun ys => ys = upto l l.length) (fun pre => ∃ k, k ≤ l.length ∧ pre = upto l k) l.length w

/-- The iterator over bits that may be. -/
theorem all_stops (n g ob m : Nat) (hn : 1 ≤ n) (l : List Bool) (bs : List UInt8) (his : IsBits l bs) (hl : l.length ≤ 4096) (hm : m = bs.length) (w : World) (hrow : Blk w g 5 (encB bs)) (hbox : Blk w ob 28 #[.int .i64 (l.length : Int), .slice (some ⟨g, 0, none⟩) m m]) :
    Tells n 85 #[.pointer (some ⟨ob, 0, none⟩)] g ob l w :=
  fun lp J Jx W hW hJ _ hY h0 => all2_in n lp g ob m hn l bs his hl hm J Jx W hJ hY (hrow.below hW hrow.lt) (hbox.below hW hbox.lt) h0

set_option maxHeartbeats 1000000 in
/-- The iterator over bits that may not be: nothing comes. -/
theorem none_stops (n g ob : Nat) (w : World) : Tells n 84 #[] g ob [] w := fun lp J Jx W _ _ _ _ h0 => by
  refine callsIn_of_wp Tryd.func84 rfl trivial ?_ rfl
  simp only [Tryd.ntmps84, List.size_toArray, List.length_cons, List.length_nil, Nat.reduceAdd, Nat.reduceSub, Array.replicate_succ, Array.replicate_zero, List.push_toArray, List.append_toArray, List.nil_append, List.cons_append]
  gi_wp2
  go_end0
  exact ⟨⟨_, rfl⟩, .inl ⟨[], rfl, h0⟩⟩

/-- The truths of bits; none of bits that may not be. -/
def lst (N : Int) (bs : List UInt8) : List Bool := if goodB N bs = true then listOf N bs else []
theorem lst_length (N : Int) (bs : List UInt8) : (lst N bs).length ≤ 4096 := by
  unfold lst
  split
  · rename_i h
    have := good_length h
    have := (good_iff N bs).1 h
    omega
  · simp
/-- What All answers: a sequence that tells the truths. -/
def AllGives (w : World) (l : List Bool) (e : Ending) (w' : World) : Prop :=
  ∃ (gf : Nat) (lb : Array Value) (g ob : Nat), e = .returned (.func (.func gf) #[] lb) ∧ (∀ args w, (callFunc gf args).run Tryd.prog w = .ok (.enter gf args) w) ∧ (∀ n, 1 ≤ n → Tells n gf lb g ob l w') ∧
    w.heap.size ≤ g ∧ w.heap.size ≤ ob ∧ g < w'.heap.size ∧ ob < w'.heap.size ∧ Below w.heap.size w w'

set_option maxRecDepth 4000 in
set_option maxHeartbeats 1000000 in
theorem all_any (N : Int) (A : Option Addr) (n c : Nat) (bs : List UInt8) (w : World) (hn : n = bs.length) (hm : n ≤ maxLen) (hA : Byt w.heap.size w A bs) :
    Calls Tryd.prog 62 #[.agg #[.int .i64 N, .slice A n c]] w (AllGives w (lst N bs)) := by
  have hck := fun w1 (h : Below w.heap.size w w1) => check_any N A n c bs w1 hn hm ((hA.below h).mono h.size)
  by_cases hgood : goodB N bs = true
  · obtain ⟨hg0, hg1, hg2, hg3⟩ := (good_iff N bs).1 hgood
    rw [chk_yes hgood] at hck
    have hgr := fun w1 (h : Below w.heap.size w w1) => grown_any N 0 A n c bs w1 hg0 hg1 (by omega) (by omega) hn (by omega) ((hA.below h).mono h.size)
    have hls : lst N bs = listOf N bs := by simp [lst, hgood]
    rw [hls]
    have hib := good_isBits hgood
    have hgl := good_length hgood
    have HCK := Lib.hid hck; have HGR := Lib.hid hgr; have HL := Lib.hid hg2; have HIB := Lib.hid hib; have HGL := Lib.hid hgl
    clear hck hgr hg2 hg3 hgood hA hn hls hib hgl
    unfold maxLen at hm
    go_enter Tryd.func62, Tryd.ntmps62
    go_wp2_with (first
      | (go_at_call 43; refine (HCK.out _ ((Below.refl _ _).alloc (Nat.le_refl _) _)).mono ?_; rintro e w1 ⟨rfl, hB⟩; obtain ⟨k1, hs, hBw⟩ := boxes1 hB; obtain ⟨c1, c2, f1, f2⟩ := k1.two)
      | (go_at_call 82; refine (HGR.out _ hBw).mono ?_; rintro e w2 ⟨g, m, hmm, rfl, hgg, hgb, hgB⟩; have HM := Lib.hid hmm; clear hmm))
    go_ret
    have hgl := hgb.lt
    have e1 : (N.toNat + Int.toNat 0 + 7) / 8 - bs.length = 0 := by have := HL.out; omega
    rw [e1, List.replicate_zero, List.append_nil] at hgb
    refine ⟨85, _, g, w2.heap.size, rfl, enters_of Tryd.func85 (by kernel_rfl) rfl, fun q hq => ?_, by omega, by have := hgB.size; omega, by simp; omega, by simp, (hBw.trans (hgB.mono hBw.size)).alloc (by have := hgB.size; omega) _⟩
    refine all_stops q g w2.heap.size m hq _ bs HIB.out ?_ (by have := HM.out; have := HL.out; omega) _ (hgb.alloc _) ?_
    · have := HGL.out; omega
    · rw [HGL.out]; exact Blk.new w2 28 _
  · have hls : lst N bs = [] := by simp [lst, hgood]
    rw [chk_no (by simpa using hgood)] at hck
    rw [hls]
    have HCK := Lib.hid hck
    clear hck hgood hA hn hls
    unfold maxLen at hm
    go_enter Tryd.func62, Tryd.ntmps62
    go_wp2_with (go_at_call 43; refine (HCK.out _ ((Below.refl _ _).alloc (Nat.le_refl _) _)).mono ?_; rintro e w1 ⟨rfl, hB⟩; obtain ⟨k1, hs, hBw⟩ := boxes1 hB; obtain ⟨c1, c2, f1, f2⟩ := k1.two)
    go_ret
    exact ⟨84, #[], w.heap.size, w.heap.size, rfl, enters_of Tryd.func84 (by kernel_rfl) rfl, fun q _ => none_stops q _ _ _, Nat.le_refl _, Nat.le_refl _, by omega, by omega, hBw⟩
end Go.Proofs.YtcfbeelljhjnoaaDoor

namespace Go.Proofs.YtcfbeelljhjnoaaDoor
open Go.RowKit Go.Shelf
attribute [local go_sem] Oper.semAt_some

/-- A digit for each bit. -/
def dig (b : Bool) : UInt8 := if b then 49 else 48
def textOf (l : List Bool) : ByteArray := ⟨(l.map dig).toArray⟩

theorem push_all (bs : List UInt8) : ∀ s : ByteArray, (bs.map fun x => (x.toNat : Int)).foldl (fun r n => r.push (UInt8.ofNat n.toNat)) s = ⟨s.data ++ bs.toArray⟩ := by
  induction bs with
  | nil => intro s; simp
  | cons x bs ih =>
    intro s
    rw [List.map_cons, List.foldl_cons, ih]
    simp [ByteArray.push]
theorem addr_add (b off j : Nat) : (⟨b, off, none⟩ : Addr).add j = ⟨b, off + j, none⟩ := by
  unfold Addr.add
  split
  · rename_i h; subst h; rfl
  · rfl
/-- string(bytes), of bytes that a slice holds. -/
theorem run_string_bytes {n₀ : Nat} {W : World} {A : Option Addr} {n c : Nat} {bs : List UInt8} (hn : n = bs.length) (hA : Byt n₀ W A bs) : (convert 24 9 (.slice A n c)).run Tryd.prog W = .ok (.string ⟨bs.toArray⟩) W := by
  subst hn
  rw [run_convert_bytes_string W 24 9 5 A bs.length c Tryd.underlying24 Tryd.underlying5 Tryd.underlying9]
  have key : ∀ a : Addr, (∀ j u, (bs.map fun x => Value.int .u8 (x.toNat : Int))[j]? = some u → W.cell? (a.add j) = some u) → (Conv.bytesToString (.slice (some a) bs.length c)).run Tryd.prog W = .ok (.string ⟨bs.toArray⟩) W := by
    intro a ha
    have hl := run_loadCells_list (P := Tryd.prog) W a (bs.map fun x => Value.int .u8 (x.toNat : Int)) ha
    rw [List.length_map] at hl
    have h2 := run_bytesToString (P := Tryd.prog) W a bs.length c (bs.map fun x => (x.toNat : Int)) (by rw [hl]; simp)
    rw [h2, push_all]
    simp
  by_cases h0 : bs = []
  · subst h0
    cases A with
    | none => simp [Conv.bytesToString]; rfl
    | some a => exact key a (by simp)
  · obtain ⟨b, off, rfl, _, hc⟩ := hA h0
    refine key _ fun j u hu => ?_
    have hjl : j < bs.length := by
      rcases Nat.lt_or_ge j bs.length with hl | hl
      · exact hl
      · simp [List.getElem?_eq_none hl] at hu
    have hv : u = .int .u8 ((bs[j]?.getD 0).toNat : Int) := by simpa [hjl, eq_comm] using hu
    rw [hv, addr_add]
    exact hc j hjl
theorem byt_of_own {w : World} {base : Nat} {v : Value} {k : Nat} {bs : List UInt8} (h : w.ownsRow base 5 1 v k (bs.map fun x => Value.int .u8 (x.toNat : Int))) : ∃ A c, v = .slice A bs.length c ∧ Byt w.heap.size w A bs := by
  have hk : bs.length = k := by have := h.1; simpa using this
  rcases h.2 with ⟨rfl, h0⟩ | ⟨g, cap, cur, rfl, _, hh, _⟩
  · exact ⟨none, 0, by rw [hk, h0], fun hne => absurd (List.eq_nil_of_length_eq_zero (hk.trans h0)) hne⟩
  · refine ⟨some ⟨g, 0, none⟩, cap, by rw [hk], fun _ => ⟨g, 0, rfl, (Array.getElem?_eq_some_iff.1 hh).1, fun j hj => ?_⟩⟩
    have := h.cells (g := g) rfl j (.int .u8 ((bs[j]?.getD 0).toNat : Int)) (by simp [hj])
    rwa [addr_add] at this

/-- 'out = append(out, ..)' into a boxed variable that lies below the row's base. -/
theorem appended2 {W w1 : World} {n₀ n₁ B : Nat} {t e : TypeId} {size : Nat} {v v' : Value} {k m : Nat} {xs ys : List Value} {tmp : Obj}
    (hv : Boxed W B t v) (hte : t ≠ e) (hrow : W.ownsRow n₁ e size v k xs) (hn₁ : n₁ ≤ W.heap.size) (hn₀ : n₀ ≤ n₁) (hB : n₀ ≤ B)
    (hown' : w1.ownsRow n₁ e size v' m ys) (hgrow : (W.alloc tmp).grownBy w1 v.ownBlock) :
    Boxed w1 B t v ∧ Boxed (w1.setCell ⟨B, 0, none⟩ v') B t v' ∧ (w1.setCell ⟨B, 0, none⟩ v').ownsRow n₁ e size v' m ys ∧ KeepsOthers W (w1.setCell ⟨B, 0, none⟩ v') ∧ Below n₀ W (w1.setCell ⟨B, 0, none⟩ v') ∧
      (∀ q, q < n₁ → q ≠ B → (w1.setCell ⟨B, 0, none⟩ v').heap[q]? = W.heap[q]?) := by
  have hv1 : Boxed w1 B t v := (hv.alloc tmp).kept hgrow (hv.not_row hte hrow)
  have hge : ∀ j, v.ownBlock = some j → n₁ ≤ j := fun j ej => (hrow.lt j ej).1
  refine ⟨hv1, hv1.set v', hown'.kept (grownBy_setCell' w1 B v') (.inr (hv1.not_row hte hown').symm), ?_, ?_, fun q hq hne => ?_⟩
  · refine ((KeepsOthers.alloc W tmp).trans (KeepsOthers.of_grownBy hgrow fun j o ej hj => ?_)).trans (KeepsOthers.setCell _ _ _)
    rcases (hrow.alloc tmp).2 with ⟨rfl, _⟩ | ⟨g, cap, cur, rfl, _, hgb, _⟩
    · simp [Value.ownBlock] at ej
    · obtain rfl : g = j := by simpa [Value.ownBlock] using ej
      rw [hgb] at hj; cases hj; rfl
  · exact (((Below.refl n₀ W).alloc (by omega) tmp).grown hgrow (by simp; omega) fun j ej => Nat.le_trans hn₀ (hge j ej)).setCell (p := ⟨B, 0, none⟩) hB v'
  · refine (Below.heap_setCell w1 ⟨B, 0, none⟩ v' q hne).trans ((hgrow.block q (by simp; omega) (fun ej => ?_)).trans (Below.heap_alloc W tmp q (by omega)))
    have := hge q ej.symm
    omega

theorem dig_snoc (pre : List (Nat × Bool)) (x : Nat × Bool) : (pre ++ [x]).map (fun y => Value.int .u8 ((dig y.2).toNat : Int)) = pre.map (fun y => Value.int .u8 ((dig y.2).toNat : Int)) ++ [.int .u8 ((dig x.2).toNat : Int)] := by simp

end Go.Proofs.YtcfbeelljhjnoaaDoor

namespace Go.Proofs.YtcfbeelljhjnoaaDoor
open Go.RowKit

theorem goodB_nil : goodB 0 [] = true := by decide
theorem put_first : putS 0 [] 5 4 = (0, [false, true, false, true]) := by decide
theorem put_more {l : List Bool} {bs : List UInt8} (h : IsBits l bs) (hl : l.length ≤ 4096) (v : Nat) (width : Int) :
    putS l.length bs v width = (if (0 ≤ width ∧ width ≤ 64) ∧ v / 2 ^ width.toNat = 0 then if 4096 - (l.length : Int) < width then (3, []) else (0, l ++ numBits v width.toNat) else (2, [])) := by
  unfold putS
  rw [if_pos (isBits_good h hl), isBits_listOf h]
theorem get_more {l : List Bool} {bs : List UInt8} (h : IsBits l bs) (hl : l.length ≤ 4096) (at_ width : Int) :
    getS l.length bs at_ width = (if (0 ≤ width ∧ width ≤ 64) ∧ 0 ≤ at_ ∧ at_ ≤ (l.length : Int) - width then (0, numOf ((l.drop at_.toNat).take width.toNat)) else (2, 0)) := by
  unfold getS
  rw [if_pos (isBits_good h hl), isBits_listOf h]
theorem lst_more {l : List Bool} {bs : List UInt8} (h : IsBits l bs) (hl : l.length ≤ 4096) : lst l.length bs = l := by
  unfold lst
  rw [if_pos (isBits_good h hl), isBits_listOf h]

theorem bytes_small {l : List Bool} {bs : List UInt8} (h : IsBits l bs) (hl : l.length ≤ 4096) : bs.length ≤ maxLen := by
  have := h.1; unfold maxLen; omega

end Go.Proofs.YtcfbeelljhjnoaaDoor
