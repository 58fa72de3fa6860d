/-
  A CALL ON BOTH: the law's 'does', all kinds but Record.
-/
import Derived.Test.YtcohgbelcbniaaaPq
namespace Go.Proofs.Ytcohgbelcbniaaa
open Go.RowKit
set_option linter.unusedVariables false

theorem box_keep {W w1 : World} {p g : Nat} {m' : M} {F : Nat → Prop} {cs : Array Value} {t : TypeId} (hx : Own W g cs t) (hng : ¬ F g) (r1 : HRet W p m' F w1) : Own w1 g cs t := by
  obtain ⟨_, _, _, h3⟩ := r1
  exact hx.fr h3 hng
theorem own8v {w : World} {g : Nat} {a0 a1 a2 a3 a4 a5 a6 a7 : Value} {t : TypeId} (h : Own w g #[a0, a1, a2, a3, a4, a5, a6, a7] t) : w.cell? ⟨g, 0, none⟩ = some a0 ∧ w.cell? ⟨g, 1, none⟩ = some a1 ∧ w.cell? ⟨g, 2, none⟩ = some a2 ∧ w.cell? ⟨g, 3, none⟩ = some a3 ∧ w.cell? ⟨g, 4, none⟩ = some a4 ∧ w.cell? ⟨g, 5, none⟩ = some a5 ∧ w.cell? ⟨g, 6, none⟩ = some a6 ∧ w.cell? ⟨g, 7, none⟩ = some a7 :=
  ⟨h.cell 0, h.cell 1, h.cell 2, h.cell 3, h.cell 4, h.cell 5, h.cell 6, h.cell 7⟩
/-- What is known at the law's 'does', behind its copy of the call. -/
structure Dd (w W : World) (p q : Nat) (m : M) (F G A : Nat → Prop) (B : Nat) (cs : Array Value) : Prop where
  hs : HAt W p m F
  hr : RAt W q m G
  hd : ∀ b, F b → G b → False
  hA : ∀ b, A b ↔ F b ∨ G b
  hb : Below w.heap.size w W
  own : Own W B cs 26
  nf : ¬ F B
  ng : ¬ G B
set_option maxRecDepth 100000 in
set_option maxHeartbeats 2000000 in
theorem does1 {w W : World} {p q : Nat} {m : M} {F G A : Nat → Prop} {kd : Int} {tx : ByteArray} {nn mm : Int} {ao : Option Addr} {l cap : Nat} {ref i word : Int} (d : Dd w W p q m F G A w.heap.size #[.int .i64 kd, .string tx, .int .i64 nn, .int .i64 mm, .slice ao l cap, .int .u64 ref, .int .i64 i, .int .u64 word]) (hW : Hid (w.alloc (.cells #[.int .i64 kd, .string tx, .int .i64 nn, .int .i64 mm, .slice ao l cap, .int .u64 ref, .int .i64 i, .int .u64 word] 26) = W)) (hkd : kd = 1) (hn : m.ths.length ≤ 100000) (htx : tx.size ≤ 131072) (hm1 : -9223372036854775808 ≤ mm) (hm2 : mm < 9223372036854775808) (hr1 : 0 ≤ ref) (hr2 : ref < 18446744073709551616) (hi1 : -9223372036854775808 ≤ i) (hi2 : i < 9223372036854775808) (hword : 0 ≤ word ∧ word < 18446744073709551616) (hcap : cap ≤ maxLen) (hl : l ≤ cap) :
    Calls Try.prog 12 #[ptr p, ptr q, .agg #[.int .i64 kd, .string tx, .int .i64 nn, .int .i64 mm, .slice ao l cap, .int .u64 ref, .int .i64 i, .int .u64 word]] w fun e w' => e = .returned (.bool true) ∧ PqRet w p q (m.texted tx) A w' := by
  have HS : Hid (HAt W p m F) := d.hs
  have HR : Hid (RAt W q m G) := d.hr
  have HD : Hid (∀ b, F b → G b → False) := d.hd
  have HA : Hid (∀ b, A b ↔ F b ∨ G b) := d.hA
  have HB0 : Hid (Below w.heap.size w W) := d.hb
  have HX : Hid _ := d.own
  have hng := d.nf
  have HI : Hid (Inv m) := d.hs.inv
  have hn6 : m.ths.length ≤ 1000000 := by omega
  obtain ⟨c0, c1, c2, c3, c4, c5, c6, c7⟩ := own8v d.own
  have hc := textS HS.out hn tx (by unfold maxLen; omega)
  obtain ⟨V, hV⟩ : ∃ V, Hid (m.textR tx = V) := ⟨_, rfl⟩
  obtain ⟨T, hT⟩ : ∃ T, Hid (m.textT tx = T) := ⟨_, rfl⟩
  rw [hV.out, hT.out] at hc
  unfold maxLen at hcap
  subst hkd
  clear d
  go_enter Try.func12, Try.ntmps12
  go_upto_region 1 with fail
  rw [hW.out]
  go_wp2_with (first
    | (go_at_call 27; refine hc.mono ?_; rintro e w2 ⟨rfl, r1⟩; have R1 : Hid _ := r1; have hc2 := textR (pq_mid HR.out HD.out r1) HI.out hn6 tx (by unfold maxLen; omega); rw [hV.out, hT.out] at hc2; clear c0 c1 c2 c3 c4 c5 c6 c7; obtain ⟨c0, c1, c2, c3, c4, c5, c6, c7⟩ := own8v (box_keep HX.out hng r1); clear r1)
    | (go_at_call 30; refine hc2.mono ?_; rintro e w3 ⟨rfl, r2⟩; have R2 : Hid _ := r2; clear r2))
  go_ret
  exact ⟨by first | rfl | simp, (pq_end HR.out HD.out HA.out R1.out R2.out).base HB0.out⟩
set_option maxRecDepth 100000 in
set_option maxHeartbeats 2000000 in
theorem does3 {w W : World} {p q : Nat} {m : M} {F G A : Nat → Prop} {kd : Int} {tx : ByteArray} {nn mm : Int} {ao : Option Addr} {l cap : Nat} {ref i word : Int} (d : Dd w W p q m F G A w.heap.size #[.int .i64 kd, .string tx, .int .i64 nn, .int .i64 mm, .slice ao l cap, .int .u64 ref, .int .i64 i, .int .u64 word]) (hW : Hid (w.alloc (.cells #[.int .i64 kd, .string tx, .int .i64 nn, .int .i64 mm, .slice ao l cap, .int .u64 ref, .int .i64 i, .int .u64 word] 26) = W)) (hkd : kd = 3) (hn : m.ths.length ≤ 100000) (htx : tx.size ≤ 131072) (hm1 : -9223372036854775808 ≤ mm) (hm2 : mm < 9223372036854775808) (hr1 : 0 ≤ ref) (hr2 : ref < 18446744073709551616) (hi1 : -9223372036854775808 ≤ i) (hi2 : i < 9223372036854775808) (hword : 0 ≤ word ∧ word < 18446744073709551616) (hcap : cap ≤ maxLen) (hl : l ≤ cap) :
    Calls Try.prog 12 #[ptr p, ptr q, .agg #[.int .i64 kd, .string tx, .int .i64 nn, .int .i64 mm, .slice ao l cap, .int .u64 ref, .int .i64 i, .int .u64 word]] w fun e w' => e = .returned (.bool true) ∧ PqRet w p q (m.filled nn mm word) A w' := by
  have HS : Hid (HAt W p m F) := d.hs
  have HR : Hid (RAt W q m G) := d.hr
  have HD : Hid (∀ b, F b → G b → False) := d.hd
  have HA : Hid (∀ b, A b ↔ F b ∨ G b) := d.hA
  have HB0 : Hid (Below w.heap.size w W) := d.hb
  have HX : Hid _ := d.own
  have hng := d.nf
  have HI : Hid (Inv m) := d.hs.inv
  have hn6 : m.ths.length ≤ 1000000 := by omega
  obtain ⟨c0, c1, c2, c3, c4, c5, c6, c7⟩ := own8v d.own
  have hc := fillS HS.out hn nn mm word hm1 hm2 hword
  obtain ⟨V, hV⟩ : ∃ V, Hid (m.fillR mm = V) := ⟨_, rfl⟩
  obtain ⟨T, hT⟩ : ∃ T, Hid (m.fillT mm = T) := ⟨_, rfl⟩
  rw [hV.out, hT.out] at hc
  unfold maxLen at hcap
  subst hkd
  clear d
  go_enter Try.func12, Try.ntmps12
  go_upto_region 1 with fail
  rw [hW.out]
  go_wp2_with (first
    | (go_at_call 32; refine hc.mono ?_; rintro e w2 ⟨rfl, r1⟩; have R1 : Hid _ := r1; have hc2 := fillR (pq_mid HR.out HD.out r1) HI.out hn6 nn mm word hm1 hm2; rw [hV.out, hT.out] at hc2; clear c0 c1 c2 c3 c4 c5 c6 c7; obtain ⟨c0, c1, c2, c3, c4, c5, c6, c7⟩ := own8v (box_keep HX.out hng r1); clear r1)
    | (go_at_call 33; refine hc2.mono ?_; rintro e w3 ⟨rfl, r2⟩; have R2 : Hid _ := r2; clear r2))
  go_ret
  exact ⟨by first | rfl | simp, (pq_end HR.out HD.out HA.out R1.out R2.out).base HB0.out⟩
set_option maxRecDepth 100000 in
set_option maxHeartbeats 2000000 in
theorem does4 {w W : World} {p q : Nat} {m : M} {F G A : Nat → Prop} {kd : Int} {tx : ByteArray} {nn mm : Int} {ao : Option Addr} {l cap : Nat} {ref i word : Int} (d : Dd w W p q m F G A w.heap.size #[.int .i64 kd, .string tx, .int .i64 nn, .int .i64 mm, .slice ao l cap, .int .u64 ref, .int .i64 i, .int .u64 word]) (hW : Hid (w.alloc (.cells #[.int .i64 kd, .string tx, .int .i64 nn, .int .i64 mm, .slice ao l cap, .int .u64 ref, .int .i64 i, .int .u64 word] 26) = W)) (hkd : kd = 4) (hn : m.ths.length ≤ 100000) (htx : tx.size ≤ 131072) (hm1 : -9223372036854775808 ≤ mm) (hm2 : mm < 9223372036854775808) (hr1 : 0 ≤ ref) (hr2 : ref < 18446744073709551616) (hi1 : -9223372036854775808 ≤ i) (hi2 : i < 9223372036854775808) (hword : 0 ≤ word ∧ word < 18446744073709551616) (hcap : cap ≤ maxLen) (hl : l ≤ cap) :
    Calls Try.prog 12 #[ptr p, ptr q, .agg #[.int .i64 kd, .string tx, .int .i64 nn, .int .i64 mm, .slice ao l cap, .int .u64 ref, .int .i64 i, .int .u64 word]] w fun e w' => e = .returned (.bool true) ∧ PqRet w p q (m.made (tGrow nn) 1) A w' := by
  have HS : Hid (HAt W p m F) := d.hs
  have HR : Hid (RAt W q m G) := d.hr
  have HD : Hid (∀ b, F b → G b → False) := d.hd
  have HA : Hid (∀ b, A b ↔ F b ∨ G b) := d.hA
  have HB0 : Hid (Below w.heap.size w W) := d.hb
  have HX : Hid _ := d.own
  have hng := d.nf
  have HI : Hid (Inv m) := d.hs.inv
  have hn6 : m.ths.length ≤ 1000000 := by omega
  obtain ⟨c0, c1, c2, c3, c4, c5, c6, c7⟩ := own8v d.own
  have hc := emptyS HS.out hn nn
  obtain ⟨V, hV⟩ : ∃ V, Hid (m.madeR 1 = V) := ⟨_, rfl⟩
  obtain ⟨T, hT⟩ : ∃ T, Hid (m.madeT 1 = T) := ⟨_, rfl⟩
  rw [hV.out, hT.out] at hc
  unfold maxLen at hcap
  subst hkd
  clear d
  go_enter Try.func12, Try.ntmps12
  go_upto_region 1 with fail
  rw [hW.out]
  go_wp2_with (first
    | (go_at_call 23; refine hc.mono ?_; rintro e w2 ⟨rfl, r1⟩; have R1 : Hid _ := r1; have hc2 := emptyR (pq_mid HR.out HD.out r1) HI.out hn6 nn; rw [hV.out, hT.out] at hc2; clear c0 c1 c2 c3 c4 c5 c6 c7; obtain ⟨c0, c1, c2, c3, c4, c5, c6, c7⟩ := own8v (box_keep HX.out hng r1); clear r1)
    | (go_at_call 34; refine hc2.mono ?_; rintro e w3 ⟨rfl, r2⟩; have R2 : Hid _ := r2; clear r2))
  go_ret
  exact ⟨by first | rfl | simp, (pq_end HR.out HD.out HA.out R1.out R2.out).base HB0.out⟩
set_option maxRecDepth 100000 in
set_option maxHeartbeats 2000000 in
theorem does8 {w W : World} {p q : Nat} {m : M} {F G A : Nat → Prop} {kd : Int} {tx : ByteArray} {nn mm : Int} {ao : Option Addr} {l cap : Nat} {ref i word : Int} (d : Dd w W p q m F G A w.heap.size #[.int .i64 kd, .string tx, .int .i64 nn, .int .i64 mm, .slice ao l cap, .int .u64 ref, .int .i64 i, .int .u64 word]) (hW : Hid (w.alloc (.cells #[.int .i64 kd, .string tx, .int .i64 nn, .int .i64 mm, .slice ao l cap, .int .u64 ref, .int .i64 i, .int .u64 word] 26) = W)) (hkd : ¬ kd = 0 ∧ ¬ kd = 1 ∧ ¬ kd = 2 ∧ ¬ kd = 3 ∧ ¬ kd = 4 ∧ ¬ kd = 5 ∧ ¬ kd = 6 ∧ ¬ kd = 7) (hn : m.ths.length ≤ 100000) (htx : tx.size ≤ 131072) (hm1 : -9223372036854775808 ≤ mm) (hm2 : mm < 9223372036854775808) (hr1 : 0 ≤ ref) (hr2 : ref < 18446744073709551616) (hi1 : -9223372036854775808 ≤ i) (hi2 : i < 9223372036854775808) (hword : 0 ≤ word ∧ word < 18446744073709551616) (hcap : cap ≤ maxLen) (hl : l ≤ cap) :
    Calls Try.prog 12 #[ptr p, ptr q, .agg #[.int .i64 kd, .string tx, .int .i64 nn, .int .i64 mm, .slice ao l cap, .int .u64 ref, .int .i64 i, .int .u64 word]] w fun e w' => e = .returned (.bool true) ∧ PqRet w p q (m.dropped ref) A w' := by
  have HS : Hid (HAt W p m F) := d.hs
  have HR : Hid (RAt W q m G) := d.hr
  have HD : Hid (∀ b, F b → G b → False) := d.hd
  have HA : Hid (∀ b, A b ↔ F b ∨ G b) := d.hA
  have HB0 : Hid (Below w.heap.size w W) := d.hb
  have HX : Hid _ := d.own
  have hng := d.nf
  have HI : Hid (Inv m) := d.hs.inv
  have hn6 : m.ths.length ≤ 1000000 := by omega
  obtain ⟨c0, c1, c2, c3, c4, c5, c6, c7⟩ := own8v d.own
  have hc := dropS HS.out hn6 ref hr1 hr2
  obtain ⟨V, hV⟩ : ∃ V, Hid (m.dropV ref = V) := ⟨_, rfl⟩
  obtain ⟨T, hT⟩ : ∃ T, Hid (m.dropT ref = T) := ⟨_, rfl⟩
  rw [hV.out, hT.out] at hc
  unfold maxLen at hcap
  obtain ⟨k0, k1, k2, k3, k4, k5, k6, k7⟩ := hkd
  clear d
  go_enter Try.func12, Try.ntmps12
  go_upto_region 1 with fail
  rw [hW.out]
  go_wp2_with (first
    | (go_at_call 26; refine hc.mono ?_; rintro e w2 ⟨rfl, r1⟩; have R1 : Hid _ := r1; have hc2 := dropR (pq_mid HR.out HD.out r1) HI.out hn6 ref hr1 hr2; rw [hV.out, hT.out] at hc2; clear c0 c1 c2 c3 c4 c5 c6 c7; obtain ⟨c0, c1, c2, c3, c4, c5, c6, c7⟩ := own8v (box_keep HX.out hng r1); clear r1)
    | (go_at_call 38; refine hc2.mono ?_; rintro e w3 ⟨rfl, r2⟩; have R2 : Hid _ := r2; clear r2))
  go_ret
  exact ⟨by first | rfl | simp, (pq_end HR.out HD.out HA.out R1.out R2.out).base HB0.out⟩
end Go.Proofs.Ytcohgbelcbniaaa
