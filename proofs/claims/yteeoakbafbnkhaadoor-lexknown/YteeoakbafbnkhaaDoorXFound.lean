/-
  CONTRACTS of the landed lex's fault, token; what is found at a place.
-/
import Derived.Test.YteeoakbafbnkhaaDoorXPieces
import Derived.Test.YteeoakbafbnkhaaDoorOneAll
namespace Go.Proofs.YteeoakbafbnkhaaDoor
open Go.RowKit
set_option linter.unusedVariables false

theorem bodyPost_cell1 {P : Program} {fn : Func} {R : Ending → World → Prop} {a : Act} {w : World} {p : Tmp} {ty : TypeId} {g : Nat} {t : TypeId} {cs : Array Value} {fr : Nat × Nat} {d : TypeDesc} (h : fn.results = #[.cell p ty])
    (hp : a.tmps.getD p undef = .pointer (some ⟨g, 0, none⟩)) (hd : a.defers = []) (hg : w.heap[g]? = some (.cells cs t fr))
    (hu : P.underlying ty = some d) (hd2 : (match d with | .struct _ | .array _ _ => true | _ => false) = true) (hi : (P.info? ty).map (·.size) = some cs.size)
    (hR : R (.returned (.agg cs)) w) : bodyPost P fn R .ret a w := by
  refine bodyPost_ret ?_ hd hR
  have hp' : a.tmps[p]?.getD undef = .pointer (some ⟨g, 0, none⟩) := by simpa using hp
  simp [results, h, hp', asAddr, run_loadVar_row w g t ty cs fr d hg hu hd2 hi]
theorem set7_block (w : World) (g : Nat) (a0 a1 a2 a3 a4 a5 a6 b0 b1 b2 b3 b4 b5 b6 : Value) (t : TypeId) (fr : Nat × Nat) (h : w.heap[g]? = some (.cells #[a0, a1, a2, a3, a4, a5, a6] t fr)) :
    (((((((w.setCell ⟨g, 0, none⟩ b0).setCell ⟨g, 1, none⟩ b1).setCell ⟨g, 2, none⟩ b2).setCell ⟨g, 3, none⟩ b3).setCell ⟨g, 4, none⟩ b4).setCell ⟨g, 5, none⟩ b5).setCell ⟨g, 6, none⟩ b6).heap[g]? = some (.cells #[b0, b1, b2, b3, b4, b5, b6] t fr) := by
  have h0 := heap_set w g 0 _ t fr b0 h
  have h1 := heap_set _ g 1 _ t fr b1 h0
  have h2 := heap_set _ g 2 _ t fr b2 h1
  have h3 := heap_set _ g 3 _ t fr b3 h2
  have h4 := heap_set _ g 4 _ t fr b4 h3
  have h5 := heap_set _ g 5 _ t fr b5 h4
  have h6 := heap_set _ g 6 _ t fr b6 h5
  rw [h6]
  rfl
theorem set7_below {w0 w : World} {g B : Nat} {b0 b1 b2 b3 b4 b5 b6 : Value} (h : Below B w0 w) (hg : B ≤ g) :
    Below B w0 (((((((w.setCell ⟨g, 0, none⟩ b0).setCell ⟨g, 1, none⟩ b1).setCell ⟨g, 2, none⟩ b2).setCell ⟨g, 3, none⟩ b3).setCell ⟨g, 4, none⟩ b4).setCell ⟨g, 5, none⟩ b5).setCell ⟨g, 6, none⟩ b6) :=
  ((((((h.setCell (p := ⟨g, 0, none⟩) hg _).setCell (p := ⟨g, 1, none⟩) hg _).setCell (p := ⟨g, 2, none⟩) hg _).setCell (p := ⟨g, 3, none⟩) hg _).setCell (p := ⟨g, 4, none⟩) hg _).setCell (p := ⟨g, 5, none⟩) hg _).setCell (p := ⟨g, 6, none⟩) hg _
def zeroF : Obj := .cells #[.int .u8 0, .string ⟨#[]⟩, .int .u64 0, .int .i64 0, .int .i64 0, .int .i64 0, .int .i64 0] 46
theorem zeroF_kept {w w2 : World} {g : Nat} (hg : g = w.heap.size) (hb : Below (w.alloc zeroF).heap.size (w.alloc zeroF) w2) : w2.heap[g]? = some zeroF ∧ g < w2.heap.size ∧ Below g w w2 := by
  have hs : (w.alloc zeroF).heap.size = w.heap.size + 1 := Array.size_push _
  refine ⟨?_, ?_, ?_⟩
  · rw [hb.block g (by omega), hg]; exact heap_alloc_new w _
  · have := hb.size; omega
  · exact ((Below.refl g w).alloc (by omega) _).trans (hb.mono (by omega))

def foundOk (kd n a b : Int) (x : ByteArray) : Value := .agg #[.int .u8 kd, .string x, .int .u64 n, .int .i64 a, .int .i64 b, .int .i64 0, .int .i64 0]
def foundNo (a pl e : Int) : Value := .agg #[.int .u8 0, .string ⟨#[]⟩, .int .u64 0, .int .i64 a, .int .i64 0, .int .i64 e, .int .i64 pl]
def foundV (p : Nat) (o : Except (Nat × Nat) (Nat × List Nat × Nat × Nat)) : Value :=
  match o with
  | .ok (kd, tx, n, len) => foundOk kd n p ((p + len : Nat) : Int) (strN tx)
  | .error (q, e) => foundNo p ((p + q : Nat) : Int) e

theorem xfault_any (a pl e : Int) (w : World) : Calls Tryd.prog 55 #[.int .i64 a, .int .i64 pl, .int .i64 e] w fun e' w' => e' = .returned (foundNo a pl e) ∧ Below w.heap.size w w' := by
  go_enter Tryd.func55, Tryd.ntmps55
  go_wp2
  refine bodyPost_cell1 (g := w.heap.size) (t := 46) rfl rfl rfl (heap_alloc_new w _) Tryd.underlying46 rfl (by kernel_rfl) ?_
  exact ⟨rfl, (Below.refl _ _).alloc (Nat.le_refl _) _⟩

set_option maxRecDepth 100000 in
theorem xtoken_as (kd : Int) (s : ByteArray) (a b : Nat) (ya yb : Int) (x : ByteArray) (hya : ya = a) (hyb : yb = b) (hab : a ≤ b) (hb : b ≤ s.size) (h : s.size ≤ 1048576) (hx : s.extract a b = x) (w : World) :
    Calls Tryd.prog 51 #[.int .u8 kd, .string s, .int .i64 ya, .int .i64 yb] w fun e w' => e = .returned (foundOk kd 0 a b x) ∧ Below w.heap.size w w' := by
  subst hya; subst hyb
  have hxs : x.size ≤ 1048576 := by
    have := congrArg List.length (bytesN_extract s a b)
    rw [hx, bytesN_length, List.length_take, List.length_drop, bytesN_length] at this
    omega
  obtain ⟨g, hg⟩ : ∃ g, g = w.heap.size := ⟨_, rfl⟩
  have HG : Hid (g = w.heap.size) := hg
  go_enter Tryd.func51, Tryd.ntmps51
  go_wp2_with fail
  refine (xclone_any x hxs _).mono ?_
  rintro e w2 ⟨rfl, hb2⟩
  rw [← hg]
  clear hg
  obtain ⟨hblk, hgs, BW⟩ := zeroF_kept HG.out hb2
  have BW : Hid (Below g w w2) := BW
  unfold zeroF at hblk
  have c0 : w2.cell? ⟨g, 0, none⟩ = some (.int .u8 0) := cell_of_row _ g 0 _ _ _ hblk
  have c1 : w2.cell? ⟨g, 1, none⟩ = some (.string ⟨#[]⟩) := cell_of_row _ g 1 _ _ _ hblk
  have c2 : w2.cell? ⟨g, 2, none⟩ = some (.int .u64 0) := cell_of_row _ g 2 _ _ _ hblk
  have c3 : w2.cell? ⟨g, 3, none⟩ = some (.int .i64 0) := cell_of_row _ g 3 _ _ _ hblk
  have c4 : w2.cell? ⟨g, 4, none⟩ = some (.int .i64 0) := cell_of_row _ g 4 _ _ _ hblk
  have c5 : w2.cell? ⟨g, 5, none⟩ = some (.int .i64 0) := cell_of_row _ g 5 _ _ _ hblk
  have c6 : w2.cell? ⟨g, 6, none⟩ = some (.int .i64 0) := cell_of_row _ g 6 _ _ _ hblk
  have f0 : ∀ j, w2.frozen? ⟨g, j, none⟩ = false := fun j => by simp [World.frozen?, hblk]
  have HBK : Hid (w2.heap[g]? = some (.cells #[.int .u8 0, .string ⟨#[]⟩, .int .u64 0, .int .i64 0, .int .i64 0, .int .i64 0, .int .i64 0] 46)) := hblk
  clear hblk hb2
  go_wp2
  refine bodyPost_cell1 (g := g) (t := 46) rfl rfl rfl (set7_block _ _ _ _ _ _ _ _ _ _ _ _ _ _ _ _ _ _ HBK.out) Tryd.underlying46 rfl (by kernel_rfl) ?_
  exact ⟨rfl, by rw [← HG.out]; exact set7_below BW.out (Nat.le_refl _)⟩
end Go.Proofs.YteeoakbafbnkhaaDoor
