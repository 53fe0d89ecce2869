/-
  The document itself: Parse and Text, for every text and all bits. No condition but that the bytes can be read.
-/
import Derived.Test.YtnlmpemfpkmodaaG2
namespace Go.Proofs.Ytnlmpemfpkmodaa
open Go.RowKit

theorem take_snoc_dig (s : ByteArray) (k : Nat) (h : k < s.size) : ((s.data.toList.take (k + 1)).map (· == 49)).map Value.bool = ((s.data.toList.take k).map (· == 49)).map Value.bool ++ [.bool (s[k] == 49)] := by
  rw [List.take_add_one, byte_at s k h]; simp

theorem take_snoc_text (l : List Bool) (k : Nat) (h : k < l.length) : ((l.take (k + 1)).map dig).map (fun x => Value.int .u8 (x.toNat : Int)) = ((l.take k).map dig).map (fun x => Value.int .u8 (x.toNat : Int)) ++ [.int .u8 ((dig (l[k]?.getD false)).toNat : Int)] := by
  rw [List.take_add_one, List.getElem?_eq_getElem h, List.map_append, List.map_append]; rfl

end Go.Proofs.Ytnlmpemfpkmodaa
