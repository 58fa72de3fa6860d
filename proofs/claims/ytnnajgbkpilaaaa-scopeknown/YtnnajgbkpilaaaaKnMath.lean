/-
  WHAT ScopeKnown'S WALK NEEDS: its two rows of calls, the scope at the limit.
-/
import Derived.Test.YtnnajgbkpilaaaaPlays
import Derived.Test.YtnnajgbkpilaaaaRises
import Derived.Test.YtnnajgbkpilaaaaBlocks
import Derived.Test.YtnnajgbkpilaaaaNone
namespace Go.Proofs.Ytnnajgbkpilaaaa
open Go.RowKit
set_option linter.unusedVariables false
set_option linter.unusedSimpArgs false
set_option maxRecDepth 20000
def oneSt : List St := [⟨3, ⟨#[97]⟩, 0, false⟩, ⟨2, ⟨#[97]⟩, 1, false⟩, ⟨2, ⟨#[97]⟩, 2, false⟩, ⟨3, ⟨#[97]⟩, 0, false⟩, ⟨0, ⟨#[]⟩, 0, false⟩, ⟨2, ⟨#[97]⟩, 3, false⟩, ⟨3, ⟨#[97]⟩, 0, false⟩, ⟨1, ⟨#[]⟩, 0, false⟩, ⟨3, ⟨#[97]⟩, 0, false⟩, ⟨1, ⟨#[]⟩, 0, false⟩, ⟨6, ⟨#[]⟩, 0, false⟩, ⟨4, ⟨#[76]⟩, 0, true⟩, ⟨4, ⟨#[]⟩, 0, false⟩, ⟨6, ⟨#[]⟩, 0, false⟩, ⟨6, ⟨#[]⟩, 0, true⟩, ⟨6, ⟨#[76]⟩, 0, false⟩, ⟨4, ⟨#[76]⟩, 0, true⟩, ⟨5, ⟨#[]⟩, 0, false⟩, ⟨5, ⟨#[]⟩, 0, false⟩, ⟨5, ⟨#[]⟩, 0, false⟩, ⟨4, ⟨#[76]⟩, 0, false⟩, ⟨6, ⟨#[76]⟩, 0, true⟩, ⟨6, ⟨#[76]⟩, 0, false⟩]
def twoSt : List St := [⟨2, ⟨#[]⟩, 0, false⟩, ⟨3, ⟨#[]⟩, 0, false⟩, ⟨0, ⟨#[]⟩, 0, false⟩, ⟨2, ⟨#[120]⟩, 0, false⟩, ⟨7, ⟨#[]⟩, 0, false⟩, ⟨1, ⟨#[]⟩, 0, false⟩, ⟨3, ⟨#[120]⟩, 0, false⟩, ⟨2, ⟨#[121]⟩, 5, false⟩, ⟨8, ⟨#[]⟩, 0, false⟩, ⟨3, ⟨#[120]⟩, 0, false⟩, ⟨3, ⟨#[121]⟩, 0, false⟩, ⟨2, ⟨#[122]⟩, 6, false⟩, ⟨8, ⟨#[]⟩, 0, false⟩, ⟨3, ⟨#[122]⟩, 0, false⟩, ⟨4, ⟨#[75]⟩, 0, true⟩, ⟨7, ⟨#[]⟩, 0, false⟩, ⟨5, ⟨#[]⟩, 0, false⟩, ⟨6, ⟨#[]⟩, 0, false⟩, ⟨8, ⟨#[]⟩, 0, false⟩, ⟨6, ⟨#[]⟩, 0, false⟩, ⟨4, ⟨#[75]⟩, 0, false⟩, ⟨4, ⟨#[75, 50]⟩, 0, false⟩, ⟨6, ⟨#[]⟩, 0, true⟩, ⟨6, ⟨#[75, 50]⟩, 0, true⟩]
def cS (s : St) : List Value := [.int .i64 s.kind, .string s.name, .int .i64 s.typ, .bool s.turns]
def oneC : Array Value := #[.int .i64 3, .string ⟨#[97]⟩, .int .i64 0, .bool false, .int .i64 2, .string ⟨#[97]⟩, .int .i64 1, .bool false, .int .i64 2, .string ⟨#[97]⟩, .int .i64 2, .bool false, .int .i64 3, .string ⟨#[97]⟩, .int .i64 0, .bool false, .int .i64 0, .string ⟨#[]⟩, .int .i64 0, .bool false, .int .i64 2, .string ⟨#[97]⟩, .int .i64 3, .bool false, .int .i64 3, .string ⟨#[97]⟩, .int .i64 0, .bool false, .int .i64 1, .string ⟨#[]⟩, .int .i64 0, .bool false, .int .i64 3, .string ⟨#[97]⟩, .int .i64 0, .bool false, .int .i64 1, .string ⟨#[]⟩, .int .i64 0, .bool false, .int .i64 6, .string ⟨#[]⟩, .int .i64 0, .bool false, .int .i64 4, .string ⟨#[76]⟩, .int .i64 0, .bool true, .int .i64 4, .string ⟨#[]⟩, .int .i64 0, .bool false, .int .i64 6, .string ⟨#[]⟩, .int .i64 0, .bool false, .int .i64 6, .string ⟨#[]⟩, .int .i64 0, .bool true, .int .i64 6, .string ⟨#[76]⟩, .int .i64 0, .bool false, .int .i64 4, .string ⟨#[76]⟩, .int .i64 0, .bool true, .int .i64 5, .string ⟨#[]⟩, .int .i64 0, .bool false, .int .i64 5, .string ⟨#[]⟩, .int .i64 0, .bool false, .int .i64 5, .string ⟨#[]⟩, .int .i64 0, .bool false, .int .i64 4, .string ⟨#[76]⟩, .int .i64 0, .bool false, .int .i64 6, .string ⟨#[76]⟩, .int .i64 0, .bool true, .int .i64 6, .string ⟨#[76]⟩, .int .i64 0, .bool false]
def twoC : Array Value := #[.int .i64 2, .string ⟨#[]⟩, .int .i64 0, .bool false, .int .i64 3, .string ⟨#[]⟩, .int .i64 0, .bool false, .int .i64 0, .string ⟨#[]⟩, .int .i64 0, .bool false, .int .i64 2, .string ⟨#[120]⟩, .int .i64 0, .bool false, .int .i64 7, .string ⟨#[]⟩, .int .i64 0, .bool false, .int .i64 1, .string ⟨#[]⟩, .int .i64 0, .bool false, .int .i64 3, .string ⟨#[120]⟩, .int .i64 0, .bool false, .int .i64 2, .string ⟨#[121]⟩, .int .i64 5, .bool false, .int .i64 8, .string ⟨#[]⟩, .int .i64 0, .bool false, .int .i64 3, .string ⟨#[120]⟩, .int .i64 0, .bool false, .int .i64 3, .string ⟨#[121]⟩, .int .i64 0, .bool false, .int .i64 2, .string ⟨#[122]⟩, .int .i64 6, .bool false, .int .i64 8, .string ⟨#[]⟩, .int .i64 0, .bool false, .int .i64 3, .string ⟨#[122]⟩, .int .i64 0, .bool false, .int .i64 4, .string ⟨#[75]⟩, .int .i64 0, .bool true, .int .i64 7, .string ⟨#[]⟩, .int .i64 0, .bool false, .int .i64 5, .string ⟨#[]⟩, .int .i64 0, .bool false, .int .i64 6, .string ⟨#[]⟩, .int .i64 0, .bool false, .int .i64 8, .string ⟨#[]⟩, .int .i64 0, .bool false, .int .i64 6, .string ⟨#[]⟩, .int .i64 0, .bool false, .int .i64 4, .string ⟨#[75]⟩, .int .i64 0, .bool false, .int .i64 4, .string ⟨#[75, 50]⟩, .int .i64 0, .bool false, .int .i64 6, .string ⟨#[]⟩, .int .i64 0, .bool true, .int .i64 6, .string ⟨#[75, 50]⟩, .int .i64 0, .bool true]
theorem oneC_eq : oneC = (oneSt.flatMap cS).toArray := rfl
theorem twoC_eq : twoC = (twoSt.flatMap cS).toArray := rfl
theorem stIn_lit {w : World} {b : Nat} {ss : List St} (ho : Own w b (ss.flatMap cS).toArray 29) (hsz : ∀ s ∈ ss, s.name.size ≤ maxLen) : StIn w (b + 1) (some ⟨b, 0, none⟩) ss := by
  refine ⟨hsz, .inr ⟨b, 0, rfl, by omega, fun i hi => ?_⟩⟩
  have e : ss.getD i dS = ss[i] := by rw [List.getD_eq_getElem?_getD, List.getElem?_eq_getElem hi]; rfl
  have key := getElem_flat cS 4 (fun _ => rfl) ss i
  rw [e]
  refine ⟨?_, ?_, ?_, ?_⟩
  · rw [ho.cell, List.getElem?_toArray, show 0 + i * 4 = i * 4 + 0 by omega, key 0 hi (by omega)]; rfl
  · rw [ho.cell, List.getElem?_toArray, show 0 + i * 4 + 1 = i * 4 + 1 by omega, key 1 hi (by omega)]; rfl
  · rw [ho.cell, List.getElem?_toArray, show 0 + i * 4 + 2 = i * 4 + 2 by omega, key 2 hi (by omega)]; rfl
  · rw [ho.cell, List.getElem?_toArray, show 0 + i * 4 + 3 = i * 4 + 3 by omega, key 3 hi (by omega)]; rfl
theorem StIn.mono {w : World} {B B' : Nat} {ao : Option Addr} {ss : List St} (h : StIn w B ao ss) (hb : B ≤ B') : StIn w B' ao ss := by
  refine ⟨h.1, ?_⟩
  rcases h.2 with q | ⟨b, o, h1, h2, h3⟩
  · exact .inl q
  · exact .inr ⟨b, o, h1, by omega, h3⟩
theorem StIn.take {w : World} {B : Nat} {ao : Option Addr} {ss : List St} (h : StIn w B ao ss) (k : Nat) : StIn w B ao (ss.take k) := by
  refine ⟨fun s hs => h.1 s (List.mem_of_mem_take hs), ?_⟩
  rcases h.2 with q | ⟨b, o, h1, h2, h3⟩
  · left; rw [q]; simp
  · refine .inr ⟨b, o, h1, h2, fun i hi => ?_⟩
    rw [List.length_take] at hi
    have := h3 i (by omega)
    rwa [show (ss.take k).getD i dS = ss.getD i dS by rw [List.getD_eq_getElem?_getD, List.getD_eq_getElem?_getD, List.getElem?_take, if_pos (by omega)]]
theorem kPlays {W w : World} {ao : Option Addr} {ss : List St} (hs : StIn W W.heap.size ao ss) (hb : Below W.heap.size W w) (k cap : Nat) (hk : k ≤ ss.length) (hc : k ≤ cap) (hm : cap ≤ maxLen) : Calls Try.prog 3 #[.slice ao k cap] w fun e w' => e = .returned (.bool true) ∧ Below W.heap.size W w' := by
  have hl : (ss.take k).length = k := by rw [List.length_take]; omega
  have h := plays_walk w ao (ss.take k) cap (((hs.below hb).mono hb.size).take k) (by omega) hm
  rw [hl] at h
  refine h.mono ?_
  rintro e w' ⟨rfl, h1⟩
  exact ⟨rfl, hb.trans (h1.mono hb.size)⟩
theorem kRises {W w : World} {ao : Option Addr} {ss : List St} (hs : StIn W W.heap.size ao ss) (hb : Below W.heap.size W w) (k cap : Nat) (hk : k ≤ ss.length) (hc : k ≤ cap) (hm : cap ≤ maxLen) : Calls Try.prog 6 #[.slice ao k cap] w fun e w' => e = .returned (.bool true) ∧ Below W.heap.size W w' := by
  have hl : (ss.take k).length = k := by rw [List.length_take]; omega
  have h := rises_walk w ao (ss.take k) cap (((hs.below hb).mono hb.size).take k) (by omega) hm
  rw [hl] at h
  refine h.mono ?_
  rintro e w' ⟨rfl, h1⟩
  exact ⟨rfl, hb.trans (h1.mono hb.size)⟩
theorem kBlocks {W w : World} {ao bo : Option Addr} {ss ts : List St} (hs : StIn W W.heap.size ao ss) (ht : StIn W W.heap.size bo ts) (hb : Below W.heap.size W w) (k cap : Nat) (hk : k ≤ ss.length) (hc : k ≤ cap) (hm : cap ≤ maxLen) (j dap : Nat) (hj : j ≤ ts.length) (hd : j ≤ dap) (hn : dap ≤ maxLen) (nm : ByteArray) (hsz : nm.size ≤ maxLen) (tu : Bool) :
    Calls Try.prog 5 #[.slice ao k cap, .slice bo j dap, .string nm, .bool tu] w fun e w' => e = .returned (.bool true) ∧ Below W.heap.size W w' := by
  have hl : (ss.take k).length = k := by rw [List.length_take]; omega
  have hl2 : (ts.take j).length = j := by rw [List.length_take]; omega
  have h := blocks_walk w ao (ss.take k) cap (((hs.below hb).mono hb.size).take k) (by omega) hm bo (ts.take j) dap (((ht.below hb).mono hb.size).take j) (by omega) hn nm hsz tu
  rw [hl, hl2] at h
  refine h.mono ?_
  rintro e w' ⟨rfl, h1⟩
  exact ⟨rfl, hb.trans (h1.mono hb.size)⟩
theorem kNone {W w : World} (hb : Below W.heap.size W w) (nm : ByteArray) (ty : Int) (tu : Bool) : Calls Try.prog 4 #[.string nm, .int .i64 ty, .bool tu] w fun e w' => e = .returned (.bool true) ∧ Below W.heap.size W w' := by
  refine (scopeNone_walk nm ty tu w).mono ?_
  rintro e w' ⟨rfl, h1⟩
  exact ⟨rfl, hb.trans (h1.mono hb.size)⟩
/-- The scope with one name a block. -/
def md : Nat → M
  | 0 => M.new
  | k + 1 => ((md k).declared bA (k : Int)).opened
theorem md_facts : ∀ k, k ≤ 256 → (md k).cur = [] ∧ (md k).types.length = k ∧ (md k).out.length = k
  | 0, _ => ⟨rfl, rfl, rfl⟩
  | k + 1, h => by
    obtain ⟨h1, h2, h3⟩ := md_facts k (by omega)
    have hE : (md k).decE bA = 0 := by unfold M.decE; rw [h1, h2]; simp [hasN]; omega
    simp only [md, M.declared, hE, M.opened]
    simp [h2, h3]
theorem md_decl {k : Nat} (h : k < 256) : (md k).decE bA = 0 ∧ (md k).decV bA = k := by
  obtain ⟨h1, h2, h3⟩ := md_facts k (by omega)
  have hE : (md k).decE bA = 0 := by unfold M.decE; rw [h1, h2]; simp [hasN]; omega
  exact ⟨hE, by unfold M.decV; rw [hE, h2]; rfl⟩
theorem md_last {k : Nat} (h : k < 256) : (md (k + 1)).out = (md k).out ++ [[⟨bA, k, (k : Int)⟩]] := by
  obtain ⟨h1, h2, h3⟩ := md_facts k (by omega)
  have hE := (md_decl h).1
  simp only [md, M.declared, hE, M.opened]
  simp [h1, h2]
/-- At the limit. -/
theorem limit_facts {m : M} {o : List (List L)} (h1 : m.cur = []) (h2 : m.types.length = 256) (h3 : m.out = o ++ [[⟨bA, 255, 255⟩]]) : m.decE bA = 73 ∧ m.decV bA = 0 ∧ (∀ t, m.declared bA t = m) ∧ m.closes = true ∧ m.closed.decE bA = 70 ∧ m.closed.decV bA = 0 ∧ (∀ t, m.closed.declared bA t = m.closed) ∧ m.closed.findV bA = .tuple #[.int .i64 255, .int .i64 255, .bool true] ∧ m.closed.types.length = 256 := by
  have hE : m.decE bA = 73 := by unfold M.decE; rw [h1, h2]; rfl
  have hc := closed_parts h3
  have hE2 : m.closed.decE bA = 70 := by rw [hc]; simp [M.decE, hasN]
  refine ⟨hE, by unfold M.decV; rw [hE]; rfl, fun t => by unfold M.declared; rw [hE]; rfl, by simp [M.closes, h3], hE2, by unfold M.decV; rw [hE2]; rfl, fun t => by unfold M.declared; rw [hE2]; rfl, ?_, by rw [hc]; exact h2⟩
  rw [hc]
  simp [M.findV, M.find, lastN, M.flat]
end Go.Proofs.Ytnnajgbkpilaaaa
