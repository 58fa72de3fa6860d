/-
  CONTRACT of the document's reader: number, as one.
-/
import Derived.Test.YtffnlcamobekoaaDoorRr
namespace Go.Proofs.YtffnlcamobekoaaDoor
open Go.RowKit
set_option linter.unusedVariables false

/-- The numbers that the document lists: how many bytes they may have. -/
structure NmKind (k : Nm) : Prop where
  ok : k.Ok
  pos : 1 ≤ k.sz
  un : k.sg = false → k.sz ≤ 4
  si : k.sg = true → k.sz = 1 ∨ k.sz = 4 ∨ k.sz = 8
theorem kindShort : NmKind nShort := ⟨okShort, by decide, by decide, by decide⟩
theorem kindPlace : NmKind nPlace := ⟨okPlace, by decide, by decide, by decide⟩
theorem kindVal (x : Int) : NmKind (nVal x) := by
  refine ⟨okVal x, by rw [val_sz]; omega, fun h => ?_, fun _ => .inr (.inr (val_sz x))⟩
  exfalso
  unfold nVal at h
  split at h
  · cases h
  · split at h <;> cases h
theorem lies_lt {w : World} {b off : Nat} {xs : List Nat} (h : ∀ i, i < xs.length → w.cell? ⟨b, off + i, none⟩ = some (.int .u8 ((xs.getD i 0 : Nat) : Int))) (h0 : 0 < xs.length) : b < w.heap.size := World.block_lt_of_cell? w ⟨b, off + 0, none⟩ (h 0 h0)
theorem rrnum_as {k : Nm} (hk : NmKind k) {w : World} {r : Nat} {a : Option Addr} {L cap : Nat} {xs : List Nat} {s : St} (hl : Lies w a xs) (hL : L = xs.length) (h : RrAt w r a L cap s) (hs : s.2 = 0 → s.1 ≤ L) :
    Calls Tryd.prog 42 #[ptr r, .agg (partC k).toArray] w fun e w' => e = .returned (.int .i64 (k.rd xs s).1) ∧ RrRet r a L cap (k.rd xs s).2 w w' := by
  have hm : L ≤ 9223372036854775807 := by rw [hL]; exact hl.2.1
  by_cases h0 : s.2 = 0
  · obtain ⟨p, q⟩ := s
    have h0 : q = 0 := h0
    subst h0
    have hpL : p ≤ L := hs rfl
    have h8 := hk.ok.sz
    have h1 := hk.pos
    unfold Nm.rd
    rw [if_neg (by simp; omega)]
    by_cases hsh : xs.length < p + k.sz
    · rw [if_pos hsh]
      exact rrnum_short k h h8 hpL hm (by omega)
    · rw [if_neg hsh]
      obtain ⟨u, hu⟩ : ∃ u, wid ((xs.drop p).take k.sz) = u := ⟨_, rfl⟩
      have hub : u < 256 ^ k.sz := by
        have := wid_lt ((xs.drop p).take k.sz) fun c hc => hl.1 c (List.mem_of_mem_drop (List.mem_of_mem_take hc))
        rw [List.length_take, List.length_drop, Nat.min_eq_left (by omega), hu] at this
        exact this
      show Calls _ _ _ _ fun e w' => e = .returned (.int .i64 (if k.may (k.val (wid ((xs.drop p).take k.sz))) = true then (k.val (wid ((xs.drop p).take k.sz)), ((p + k.sz, 0) : St)) else (0, ((p, 120) : St))).1) ∧ RrRet r a L cap (if k.may (k.val (wid ((xs.drop p).take k.sz))) = true then (k.val (wid ((xs.drop p).take k.sz)), ((p + k.sz, 0) : St)) else (0, ((p, 120) : St))).2 w w'
      rw [hu]
      rcases hl.2.2 with hx0 | ⟨b, off, rfl, hc⟩
      · rw [hx0] at hsh; simp at hsh; omega
      have hbl := lies_lt hc (by omega)
      obtain ⟨V, hV⟩ : ∃ V, k.val u = V := ⟨_, rfl⟩
      rw [hV]
      obtain ⟨Z, sg, lo, hi⟩ := k
      simp only at h1 h8 hu hub hsh
      cases sg with
      | false =>
        have h4 : Z ≤ 4 := hk.un rfl
        have e : V = (u : Int) := by rw [← hV]; unfold Nm.val; rw [if_neg (by simp)]
        have hp4 : 256 ^ Z ≤ 256 ^ 4 := Nat.pow_le_pow_right (by omega) h4
        cases hmay : (⟨Z, false, lo, hi⟩ : Nm).may V with
        | true => exact rrnum_u1 _ Z lo hi h1 h4 rfl h hL hl.1 hm hc hbl (by omega) u hu (by omega) V e hmay
        | false => exact rrnum_u0 _ Z lo hi h1 h4 rfl h hL hl.1 hm hc hbl (by omega) u hu (by omega) V e hmay
      | true =>
        have hv2 : V = if 256 ^ Z ≤ 2 * u then (u : Int) - 256 ^ Z else u := by rw [← hV]; unfold Nm.val; simp
        rcases hk.si rfl with e | e | e
        · have e : Z = 1 := e
          subst e
          by_cases h2 : 256 ≤ 2 * u
          · rw [if_pos (by simpa using h2)] at hv2
            cases hmay : (⟨1, true, lo, hi⟩ : Nm).may V with
            | true => exact rrnum_s1hi1 _ lo hi rfl h hL hl.1 hm hc hbl (by omega) u hu h2 (by omega) V (by simpa using hv2) hmay
            | false => exact rrnum_s1hi0 _ lo hi rfl h hL hl.1 hm hc hbl (by omega) u hu h2 (by omega) V (by simpa using hv2) hmay
          · rw [if_neg (by simpa using h2)] at hv2
            cases hmay : (⟨1, true, lo, hi⟩ : Nm).may V with
            | true => exact rrnum_s1lo1 _ lo hi rfl h hL hl.1 hm hc hbl (by omega) u hu (by omega) V hv2 hmay
            | false => exact rrnum_s1lo0 _ lo hi rfl h hL hl.1 hm hc hbl (by omega) u hu (by omega) V hv2 hmay
        · have e : Z = 4 := e
          subst e
          by_cases h2 : 4294967296 ≤ 2 * u
          · rw [if_pos (by simpa using h2)] at hv2
            cases hmay : (⟨4, true, lo, hi⟩ : Nm).may V with
            | true => exact rrnum_s4hi1 _ lo hi rfl h hL hl.1 hm hc hbl (by omega) u hu h2 (by omega) V (by simpa using hv2) hmay
            | false => exact rrnum_s4hi0 _ lo hi rfl h hL hl.1 hm hc hbl (by omega) u hu h2 (by omega) V (by simpa using hv2) hmay
          · rw [if_neg (by simpa using h2)] at hv2
            cases hmay : (⟨4, true, lo, hi⟩ : Nm).may V with
            | true => exact rrnum_s4lo1 _ lo hi rfl h hL hl.1 hm hc hbl (by omega) u hu (by omega) V hv2 hmay
            | false => exact rrnum_s4lo0 _ lo hi rfl h hL hl.1 hm hc hbl (by omega) u hu (by omega) V hv2 hmay
        · have e : Z = 8 := e
          subst e
          have hv3 : V = wrap64 (u : Int) := by
            rw [hv2]
            unfold wrap64
            split <;> omega
          cases hmay : (⟨8, true, lo, hi⟩ : Nm).may V with
          | true => exact rrnum_s81 _ lo hi rfl h hL hl.1 hm hc hbl (by omega) u hu (by omega) V hv3 hmay
          | false => exact rrnum_s80 _ lo hi rfl h hL hl.1 hm hc hbl (by omega) u hu (by omega) V hv3 hmay
  · rw [rd_err k xs s h0]
    exact rrnum_err k h h0
end Go.Proofs.YtffnlcamobekoaaDoor
