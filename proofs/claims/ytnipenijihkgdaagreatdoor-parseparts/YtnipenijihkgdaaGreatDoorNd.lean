import Derived.Test.YtnipenijihkgdaaGreatDoorQ0
import Derived.Below
namespace Go.Proofs.YtnipenijihkgdaaGreatDoor
open Go.RowKit
set_option linter.unusedVariables false
abbrev nD (k a:Int) (b:ByteArray) (n:Int) (v:Value):Array Value:=#[.int .u8 k,.int .i64 a,.string b,.int .u64 n,v]
abbrev nL (k a:Int) (b:ByteArray) (n:Int):Array Value:=#[.int .u8 k,.int .i64 a,.string b,.int .u64 n,.slice none 0 0]
abbrev nQ (k a:Int) (b:ByteArray) (n:Int) (o:Option Addr) (t:Tree) (c:Nat):Array Value:=#[.int .u8 k,.int .i64 a,.string b,.int .u64 n,.slice o t.kids.length c]
abbrev nZ : Array Value:=#[.int .u8 0,.int .i64 0,.string ⟨#[]⟩,.int .u64 0,.slice none 0 0]
theorem hI {p:Prop} (h:p):Hid p:=h
theorem iQ {α:Type} (x:α):∃ q,x = q:=⟨_,rfl⟩
end Go.Proofs.YtnipenijihkgdaaGreatDoor
