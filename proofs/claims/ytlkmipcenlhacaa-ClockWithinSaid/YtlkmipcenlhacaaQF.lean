/-
  All of package bits tells the places and bits, rising, and nothing of bits that may not be. No condition but that the bytes can be read.
  Text of package bits answers a digit for each bit, and the empty text for bits that may not be. No condition but that the bytes can be read.
  What stands behind two numbers that were put is as the document says. No condition.
-/
import Derived.Test.YtlkmipcenlhacaaQA
import Derived.RangeFuncNested
import Derived.RangeFuncBound
import Derived.RangeFuncCalls
import Derived.RangeFuncLeaves
import Derived.RangeFuncBox
import Derived.Shelf.Abstract
import Derived.Shelf.RegionOpen
import Derived.OwnWalkIn
import Derived.TacticsInMore
import Derived.LoopNIn
import Derived.LoopIn
import Derived.Maps.AppendAt
namespace Go.Proofs.Ytlkmipcenlhacaa
open Go.RowKit Go.Shelf
attribute [local go_sem] Oper.semAt_some

/-- What has come when k rounds are over. -/
def upto (l : List Bool) (k : Nat) : List (Nat × Bool) := (List.range k).map fun j => (j, l[j]?.getD false)
theorem upto_succ (l : List Bool) (k : Nat) : upto l (k + 1) = upto l k ++ [(k, l[k]?.getD false)] := by simp [upto, List.range_succ]
theorem upto_length (l : List Bool) (k : Nat) : (upto l k).length = k := by simp [upto]
theorem upto_snd (l : List Bool) : (upto l l.length).map (·.2) = l := by
  apply List.ext_getElem
  · simp [upto]
  · intro i h1 h2; simp [upto, h2]

/-- What a round must keep: the iterator's own row and box. -/
def Keeps2 (g ob : Nat) (W W' : World) : Prop := W'.heap[g]? = W.heap[g]? ∧ W'.heap[ob]? = W.heap[ob]?
theorem Keeps2.trans {g ob : Nat} {A B C : World} (h : Keeps2 g ob A B) (k : Keeps2 g ob B C) : Keeps2 g ob A C := ⟨k.1.trans h.1, k.2.trans h.2⟩
theorem Keeps2.refl (g ob : Nat) (A : World) : Keeps2 g ob A A := ⟨rfl, rfl⟩
theorem keeps2_b {g ob : Nat} {w : World} (hg : g < w.heap.size) (ho : ob < w.heap.size) (W : World) (l : Nat) (o o' : Obj) (hl : w.heap.size ≤ l) (_ : W.heap[l]? = some o) (_ : o.isCells = false) (_ : o.isWalk = false) : Keeps2 g ob W (W.putObj l o') :=
  ⟨World.putObj_heap_other (by omega), World.putObj_heap_other (by omega)⟩

abbrev enc2 (x : Nat × Bool) : Array Value := #[Value.int .i64 (x.1 : Int), .bool x.2]
/-- A sequence that tells l. -/
abbrev Tells (n gf : Nat) (lb : Array Value) (g ob : Nat) (l : List Bool) (w : World) : Prop :=
  SeqStopsK Fence.wide n Try.prog gf lb enc2 (Keeps2 g ob) (fun ys => ys = upto l l.length) (fun pre => ∃ k, k ≤ l.length ∧ pre = upto l k) l.length w

/-- The truths of bits; none of bits that may not be. -/
def lst (N : Int) (bs : List UInt8) : List Bool := if goodB N bs = true then listOf N bs else []
theorem lst_length (N : Int) (bs : List UInt8) : (lst N bs).length ≤ 4096 := by
  unfold lst
  split
  · rename_i h
    have := good_length h
    have := (good_iff N bs).1 h
    omega
  · simp
/-- What All answers: a sequence that tells the truths. -/
def AllGives (w : World) (l : List Bool) (e : Ending) (w' : World) : Prop :=
  ∃ (gf : Nat) (lb : Array Value) (g ob : Nat), e = .returned (.func (.func gf) #[] lb) ∧ (∀ args w, (callFunc gf args).run Try.prog w = .ok (.enter gf args) w) ∧ (∀ n, 1 ≤ n → Tells n gf lb g ob l w') ∧
    w.heap.size ≤ g ∧ w.heap.size ≤ ob ∧ g < w'.heap.size ∧ ob < w'.heap.size ∧ Below w.heap.size w w'

end Go.Proofs.Ytlkmipcenlhacaa

namespace Go.Proofs.Ytlkmipcenlhacaa
open Go.RowKit Go.Shelf
attribute [local go_sem] Oper.semAt_some

/-- A digit for each bit. -/
def dig (b : Bool) : UInt8 := if b then 49 else 48
def textOf (l : List Bool) : ByteArray := ⟨(l.map dig).toArray⟩

theorem push_all (bs : List UInt8) : ∀ s : ByteArray, (bs.map fun x => (x.toNat : Int)).foldl (fun r n => r.push (UInt8.ofNat n.toNat)) s = ⟨s.data ++ bs.toArray⟩ := by
  induction bs with
  | nil => intro s; simp
  | cons x bs ih =>
    intro s
    rw [List.map_cons, List.foldl_cons, ih]
    simp [ByteArray.push]
theorem addr_add (b off j : Nat) : (⟨b, off, none⟩ : Addr).add j = ⟨b, off + j, none⟩ := by
  unfold Addr.add
  split
  · rename_i h; subst h; rfl
  · rfl
theorem byt_of_own {w : World} {base : Nat} {v : Value} {k : Nat} {bs : List UInt8} (h : w.ownsRow base 5 1 v k (bs.map fun x => Value.int .u8 (x.toNat : Int))) : ∃ A c, v = .slice A bs.length c ∧ Byt w.heap.size w A bs := by
  have hk : bs.length = k := by have := h.1; simpa using this
  rcases h.2 with ⟨rfl, h0⟩ | ⟨g, cap, cur, rfl, _, hh, _⟩
  · exact ⟨none, 0, by rw [hk, h0], fun hne => absurd (List.eq_nil_of_length_eq_zero (hk.trans h0)) hne⟩
  · refine ⟨some ⟨g, 0, none⟩, cap, by rw [hk], fun _ => ⟨g, 0, rfl, (Array.getElem?_eq_some_iff.1 hh).1, fun j hj => ?_⟩⟩
    have := h.cells (g := g) rfl j (.int .u8 ((bs[j]?.getD 0).toNat : Int)) (by simp [hj])
    rwa [addr_add] at this

/-- 'out = append(out, ..)' into a boxed variable that lies below the row's base. -/
theorem appended2 {W w1 : World} {n₀ n₁ B : Nat} {t e : TypeId} {size : Nat} {v v' : Value} {k m : Nat} {xs ys : List Value} {tmp : Obj}
    (hv : Boxed W B t v) (hte : t ≠ e) (hrow : W.ownsRow n₁ e size v k xs) (hn₁ : n₁ ≤ W.heap.size) (hn₀ : n₀ ≤ n₁) (hB : n₀ ≤ B)
    (hown' : w1.ownsRow n₁ e size v' m ys) (hgrow : (W.alloc tmp).grownBy w1 v.ownBlock) :
    Boxed w1 B t v ∧ Boxed (w1.setCell ⟨B, 0, none⟩ v') B t v' ∧ (w1.setCell ⟨B, 0, none⟩ v').ownsRow n₁ e size v' m ys ∧ KeepsOthers W (w1.setCell ⟨B, 0, none⟩ v') ∧ Below n₀ W (w1.setCell ⟨B, 0, none⟩ v') ∧
      (∀ q, q < n₁ → q ≠ B → (w1.setCell ⟨B, 0, none⟩ v').heap[q]? = W.heap[q]?) := by
  have hv1 : Boxed w1 B t v := (hv.alloc tmp).kept hgrow (hv.not_row hte hrow)
  have hge : ∀ j, v.ownBlock = some j → n₁ ≤ j := fun j ej => (hrow.lt j ej).1
  refine ⟨hv1, hv1.set v', hown'.kept (grownBy_setCell' w1 B v') (.inr (hv1.not_row hte hown').symm), ?_, ?_, fun q hq hne => ?_⟩
  · refine ((KeepsOthers.alloc W tmp).trans (KeepsOthers.of_grownBy hgrow fun j o ej hj => ?_)).trans (KeepsOthers.setCell _ _ _)
    rcases (hrow.alloc tmp).2 with ⟨rfl, _⟩ | ⟨g, cap, cur, rfl, _, hgb, _⟩
    · simp [Value.ownBlock] at ej
    · obtain rfl : g = j := by simpa [Value.ownBlock] using ej
      rw [hgb] at hj; cases hj; rfl
  · exact (((Below.refl n₀ W).alloc (by omega) tmp).grown hgrow (by simp; omega) fun j ej => Nat.le_trans hn₀ (hge j ej)).setCell (p := ⟨B, 0, none⟩) hB v'
  · refine (Below.heap_setCell w1 ⟨B, 0, none⟩ v' q hne).trans ((hgrow.block q (by simp; omega) (fun ej => ?_)).trans (Below.heap_alloc W tmp q (by omega)))
    have := hge q ej.symm
    omega

theorem dig_snoc (pre : List (Nat × Bool)) (x : Nat × Bool) : (pre ++ [x]).map (fun y => Value.int .u8 ((dig y.2).toNat : Int)) = pre.map (fun y => Value.int .u8 ((dig y.2).toNat : Int)) ++ [.int .u8 ((dig x.2).toNat : Int)] := by simp

end Go.Proofs.Ytlkmipcenlhacaa

namespace Go.Proofs.Ytlkmipcenlhacaa
open Go.RowKit

theorem goodB_nil : goodB 0 [] = true := by decide
theorem put_first : putS 0 [] 5 4 = (0, [false, true, false, true]) := by decide
theorem put_more {l : List Bool} {bs : List UInt8} (h : IsBits l bs) (hl : l.length ≤ 4096) (v : Nat) (width : Int) :
    putS l.length bs v width = (if (0 ≤ width ∧ width ≤ 64) ∧ v / 2 ^ width.toNat = 0 then if 4096 - (l.length : Int) < width then (3, []) else (0, l ++ numBits v width.toNat) else (2, [])) := by
  unfold putS
  rw [if_pos (isBits_good h hl), isBits_listOf h]
theorem get_more {l : List Bool} {bs : List UInt8} (h : IsBits l bs) (hl : l.length ≤ 4096) (at_ width : Int) :
    getS l.length bs at_ width = (if (0 ≤ width ∧ width ≤ 64) ∧ 0 ≤ at_ ∧ at_ ≤ (l.length : Int) - width then (0, numOf ((l.drop at_.toNat).take width.toNat)) else (2, 0)) := by
  unfold getS
  rw [if_pos (isBits_good h hl), isBits_listOf h]
theorem lst_more {l : List Bool} {bs : List UInt8} (h : IsBits l bs) (hl : l.length ≤ 4096) : lst l.length bs = l := by
  unfold lst
  rw [if_pos (isBits_good h hl), isBits_listOf h]

theorem bytes_small {l : List Bool} {bs : List UInt8} (h : IsBits l bs) (hl : l.length ≤ 4096) : bs.length ≤ maxLen := by
  have := h.1; unfold maxLen; omega

end Go.Proofs.Ytlkmipcenlhacaa
