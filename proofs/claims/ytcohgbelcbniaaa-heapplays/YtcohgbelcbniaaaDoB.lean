/-
  A CALL ON BOTH: the law's 'does', Const, Get, Set, Push.
-/
import Derived.Test.YtcohgbelcbniaaaDoA
import Derived.Deep.RegionHeld3
namespace Go.Proofs.Ytcohgbelcbniaaa
open Go.RowKit
set_option linter.unusedVariables false

theorem box_keepR {W w1 : World} {q g : Nat} {m' : M} {G : Nat → Prop} {cs : Array Value} {t : TypeId} (hx : Own W g cs t) (hng : ¬ G g) (r1 : RRet W q m' G w1) : Own w1 g cs t := by
  obtain ⟨_, _, _, h3⟩ := r1
  exact hx.fr h3 hng
set_option maxRecDepth 100000 in
set_option maxHeartbeats 4000000 in
theorem does5 {w W : World} {p q : Nat} {m : M} {F G A : Nat → Prop} {kd : Int} {tx : ByteArray} {nn mm : Int} {ao : Option Addr} {l cap : Nat} {ref i word : Int} (d : Dd w W p q m F G A w.heap.size #[.int .i64 kd, .string tx, .int .i64 nn, .int .i64 mm, .slice ao l cap, .int .u64 ref, .int .i64 i, .int .u64 word]) (hW : Hid (w.alloc (.cells #[.int .i64 kd, .string tx, .int .i64 nn, .int .i64 mm, .slice ao l cap, .int .u64 ref, .int .i64 i, .int .u64 word] 26) = W)) (hkd : kd = 5) (hn : m.ths.length ≤ 100000) (htx : tx.size ≤ 131072) (hm1 : -9223372036854775808 ≤ mm) (hm2 : mm < 9223372036854775808) (hr1 : 0 ≤ ref) (hr2 : ref < 18446744073709551616) (hi1 : -9223372036854775808 ≤ i) (hi2 : i < 9223372036854775808) (hword : 0 ≤ word ∧ word < 18446744073709551616) (hcap : cap ≤ maxLen) (hl : l ≤ cap) :
    Calls Try.prog 12 #[ptr p, ptr q, .agg #[.int .i64 kd, .string tx, .int .i64 nn, .int .i64 mm, .slice ao l cap, .int .u64 ref, .int .i64 i, .int .u64 word]] w fun e w' => e = .returned (.bool true) ∧ PqRet w p q (m) A w' := by
  have HS : Hid (HAt W p m F) := d.hs
  have HR : Hid (RAt W q m G) := d.hr
  have HD : Hid (∀ b, F b → G b → False) := d.hd
  have HA : Hid (∀ b, A b ↔ F b ∨ G b) := d.hA
  have HB0 : Hid (Below w.heap.size w W) := d.hb
  have HI : Hid (Inv m) := d.hs.inv
  have hn6 : m.ths.length ≤ 1000000 := by omega
  obtain ⟨c0, c1, c2, c3, c4, c5, c6, c7⟩ := own8v d.own
  have hc := getS HS.out hn6 ref i hr1 hr2 hi1 hi2
  have hc2 := getR HR.out HI.out hn6 ref i hr1 hr2 hi1 hi2
  obtain ⟨V, hV⟩ : ∃ V, Hid (m.getV ref i = V) := ⟨_, rfl⟩
  obtain ⟨T, hT⟩ : ∃ T, Hid (m.getT ref i = T) := ⟨_, rfl⟩
  rw [hV.out, hT.out] at hc hc2
  unfold maxLen at hcap
  subst hkd
  clear d
  go_enter Try.func12, Try.ntmps12
  go_upto_region 1 with fail
  rw [hW.out]
  go_wp2_with (first
    | (go_at_call 22; refine hc.mono ?_; rintro e w2 ⟨rfl, rfl⟩)
    | (go_at_call 35; refine hc2.mono ?_; rintro e w3 ⟨rfl, r2⟩; have R2 : Hid _ := r2; clear r2))
  go_ret
  exact ⟨by first | rfl | simp, (pq_end HR.out HD.out HA.out (HRet.same HS.out (Below.refl _ _)) (RRet.same HR.out R2.out)).base HB0.out⟩
set_option maxRecDepth 100000 in
set_option maxHeartbeats 4000000 in
theorem does0 {w W : World} {p q : Nat} {m : M} {F G A : Nat → Prop} {kd : Int} {tx : ByteArray} {nn mm : Int} {ao : Option Addr} {l cap : Nat} {ref i word : Int} (d : Dd w W p q m F G A w.heap.size #[.int .i64 kd, .string tx, .int .i64 nn, .int .i64 mm, .slice ao l cap, .int .u64 ref, .int .i64 i, .int .u64 word]) (hW : Hid (w.alloc (.cells #[.int .i64 kd, .string tx, .int .i64 nn, .int .i64 mm, .slice ao l cap, .int .u64 ref, .int .i64 i, .int .u64 word] 26) = W)) (hkd : kd = 0) (hn : m.ths.length ≤ 100000) (htx : tx.size ≤ 131072) (hm1 : -9223372036854775808 ≤ mm) (hm2 : mm < 9223372036854775808) (hr1 : 0 ≤ ref) (hr2 : ref < 18446744073709551616) (hi1 : -9223372036854775808 ≤ i) (hi2 : i < 9223372036854775808) (hword : 0 ≤ word ∧ word < 18446744073709551616) (hcap : cap ≤ maxLen) (hl : l ≤ cap) :
    Calls Try.prog 12 #[ptr p, ptr q, .agg #[.int .i64 kd, .string tx, .int .i64 nn, .int .i64 mm, .slice ao l cap, .int .u64 ref, .int .i64 i, .int .u64 word]] w fun e w' => e = .returned (.bool true) ∧ PqRet w p q (m.keep (tText tx)) A w' := by
  have HR : Hid (RAt W.drew q m G) := d.hr.below (Below.refl _ _).drew
  have HD : Hid (∀ b, F b → G b → False) := d.hd
  have HA : Hid (∀ b, A b ↔ F b ∨ G b) := d.hA
  have HB0 : Hid (Below w.heap.size w W.drew) := d.hb.drew
  have HX : Hid (Own W.drew w.heap.size #[.int .i64 kd, .string tx, .int .i64 nn, .int .i64 mm, .slice ao l cap, .int .u64 ref, .int .i64 i, .int .u64 word] 26) := d.own.drew
  have hng := d.nf
  have hng2 := d.ng
  have HI : Hid (Inv m) := d.hs.inv
  have hn6 : m.ths.length ≤ 1000000 := by omega
  obtain ⟨c0, c1, c2, c3, c4, c5, c6, c7⟩ := own8v d.own
  have hsd := d.hs.below (Below.refl _ W).drew
  have hc := constS hsd hn tx (by omega)
  obtain ⟨V, hV⟩ : ∃ V, Hid (((m.ths.length : Int) + 1) = V) := ⟨_, rfl⟩
  rw [hV.out] at hc
  unfold maxLen at hcap
  subst hkd
  obtain ⟨B, hBB⟩ : ∃ B, Hid (w.heap.size = B) := ⟨_, rfl⟩
  rw [hBB.out] at c0 c1 c2 c3 c4 c5 c6 c7 hng hng2 HX
  clear d hsd
  go_enter Try.func12, Try.ntmps12
  go_upto_region 1 with fail
  rw [hW.out, hBB.out]
  go_upto_region 3 with fail
  go_region_held3 (fun w' => w'.cell? ⟨B, 1, none⟩ = some (.string tx)) (go_keep) (first
    | (go_at_call 28; refine hc.mono ?_; clear hc; rintro e w2 ⟨rfl, r1⟩; have R1 : Hid _ := r1; have hc2 := constR (pq_mid HR.out HD.out r1) HI.out hn6 tx; rw [hV.out] at hc2; obtain ⟨x0, x1, x2, x3, x4, x5, x6, x7⟩ := own8v (box_keep HX.out hng r1); have HX2 : Hid _ := box_keep HX.out hng r1; clear r1)
    | (go_at_call 29; refine hc2.mono ?_; clear hc2; rintro e w3 ⟨rfl, r2⟩; have R2 : Hid _ := r2; obtain ⟨z0, z1, z2, z3, z4, z5, z6, z7⟩ := own8v (box_keepR HX2.out hng2 r2); clear r2))
  all_goals (
    go_wp2_with fail
    go_ret
    exact ⟨by first | rfl | simp, (pq_end HR.out HD.out HA.out R1.out R2.out).base HB0.out⟩)
set_option maxRecDepth 100000 in
set_option maxHeartbeats 4000000 in
theorem does6 {w W : World} {p q : Nat} {m : M} {F G A : Nat → Prop} {kd : Int} {tx : ByteArray} {nn mm : Int} {ao : Option Addr} {l cap : Nat} {ref i word : Int} (d : Dd w W p q m F G A w.heap.size #[.int .i64 kd, .string tx, .int .i64 nn, .int .i64 mm, .slice ao l cap, .int .u64 ref, .int .i64 i, .int .u64 word]) (hW : Hid (w.alloc (.cells #[.int .i64 kd, .string tx, .int .i64 nn, .int .i64 mm, .slice ao l cap, .int .u64 ref, .int .i64 i, .int .u64 word] 26) = W)) (hkd : kd = 6) (hn : m.ths.length ≤ 100000) (htx : tx.size ≤ 131072) (hm1 : -9223372036854775808 ≤ mm) (hm2 : mm < 9223372036854775808) (hr1 : 0 ≤ ref) (hr2 : ref < 18446744073709551616) (hi1 : -9223372036854775808 ≤ i) (hi2 : i < 9223372036854775808) (hword : 0 ≤ word ∧ word < 18446744073709551616) (hcap : cap ≤ maxLen) (hl : l ≤ cap) :
    Calls Try.prog 12 #[ptr p, ptr q, .agg #[.int .i64 kd, .string tx, .int .i64 nn, .int .i64 mm, .slice ao l cap, .int .u64 ref, .int .i64 i, .int .u64 word]] w fun e w' => e = .returned (.bool true) ∧ PqRet w p q (m.put ref i word) A w' := by
  have HR : Hid (RAt W.drew q m G) := d.hr.below (Below.refl _ _).drew
  have HD : Hid (∀ b, F b → G b → False) := d.hd
  have HA : Hid (∀ b, A b ↔ F b ∨ G b) := d.hA
  have HB0 : Hid (Below w.heap.size w W.drew) := d.hb.drew
  have HX : Hid (Own W.drew w.heap.size #[.int .i64 kd, .string tx, .int .i64 nn, .int .i64 mm, .slice ao l cap, .int .u64 ref, .int .i64 i, .int .u64 word] 26) := d.own.drew
  have hng := d.nf
  have hng2 := d.ng
  have HI : Hid (Inv m) := d.hs.inv
  have hn6 : m.ths.length ≤ 1000000 := by omega
  obtain ⟨c0, c1, c2, c3, c4, c5, c6, c7⟩ := own8v d.own
  have hsd := d.hs.below (Below.refl _ W).drew
  have hc := setS hsd hn6 ref i word hr1 hr2 hi1 hi2 hword
  obtain ⟨V, hV⟩ : ∃ V, Hid (m.getT ref i = V) := ⟨_, rfl⟩
  rw [hV.out] at hc
  unfold maxLen at hcap
  subst hkd
  obtain ⟨B, hBB⟩ : ∃ B, Hid (w.heap.size = B) := ⟨_, rfl⟩
  rw [hBB.out] at c0 c1 c2 c3 c4 c5 c6 c7 hng hng2 HX
  clear d hsd
  go_enter Try.func12, Try.ntmps12
  go_upto_region 1 with fail
  rw [hW.out, hBB.out]
  go_upto_region 33 with fail
  go_region_held3 (fun w' => w'.cell? ⟨B, 5, none⟩ = some (.int .u64 ref) ∧ w'.cell? ⟨B, 6, none⟩ = some (.int .i64 i) ∧ w'.cell? ⟨B, 7, none⟩ = some (.int .u64 word)) (go_keep) (first
    | (go_at_call 21; refine hc.mono ?_; clear hc; rintro e w2 ⟨rfl, r1⟩; have R1 : Hid _ := r1; have hc2 := setR (pq_mid HR.out HD.out r1) HI.out hn6 ref i word hr1 hr2 hi1 hi2; rw [hV.out] at hc2; obtain ⟨x0, x1, x2, x3, x4, x5, x6, x7⟩ := own8v (box_keep HX.out hng r1); have HX2 : Hid _ := box_keep HX.out hng r1; clear r1)
    | (go_at_call 36; refine hc2.mono ?_; clear hc2; rintro e w3 ⟨rfl, r2⟩; have R2 : Hid _ := r2; obtain ⟨z0, z1, z2, z3, z4, z5, z6, z7⟩ := own8v (box_keepR HX2.out hng2 r2); clear r2))
  all_goals (
    go_wp2_with fail
    go_ret
    exact ⟨by first | rfl | simp, (pq_end HR.out HD.out HA.out R1.out R2.out).base HB0.out⟩)
set_option maxRecDepth 100000 in
set_option maxHeartbeats 4000000 in
theorem does7 {w W : World} {p q : Nat} {m : M} {F G A : Nat → Prop} {kd : Int} {tx : ByteArray} {nn mm : Int} {ao : Option Addr} {l cap : Nat} {ref i word : Int} (d : Dd w W p q m F G A w.heap.size #[.int .i64 kd, .string tx, .int .i64 nn, .int .i64 mm, .slice ao l cap, .int .u64 ref, .int .i64 i, .int .u64 word]) (hW : Hid (w.alloc (.cells #[.int .i64 kd, .string tx, .int .i64 nn, .int .i64 mm, .slice ao l cap, .int .u64 ref, .int .i64 i, .int .u64 word] 26) = W)) (hkd : kd = 7) (hn : m.ths.length ≤ 100000) (htx : tx.size ≤ 131072) (hm1 : -9223372036854775808 ≤ mm) (hm2 : mm < 9223372036854775808) (hr1 : 0 ≤ ref) (hr2 : ref < 18446744073709551616) (hi1 : -9223372036854775808 ≤ i) (hi2 : i < 9223372036854775808) (hword : 0 ≤ word ∧ word < 18446744073709551616) (hcap : cap ≤ maxLen) (hl : l ≤ cap) :
    Calls Try.prog 12 #[ptr p, ptr q, .agg #[.int .i64 kd, .string tx, .int .i64 nn, .int .i64 mm, .slice ao l cap, .int .u64 ref, .int .i64 i, .int .u64 word]] w fun e w' => e = .returned (.bool true) ∧ PqRet w p q (m.pushed ref word) A w' := by
  have HR : Hid (RAt W.drew q m G) := d.hr.below (Below.refl _ _).drew
  have HD : Hid (∀ b, F b → G b → False) := d.hd
  have HA : Hid (∀ b, A b ↔ F b ∨ G b) := d.hA
  have HB0 : Hid (Below w.heap.size w W.drew) := d.hb.drew
  have HX : Hid (Own W.drew w.heap.size #[.int .i64 kd, .string tx, .int .i64 nn, .int .i64 mm, .slice ao l cap, .int .u64 ref, .int .i64 i, .int .u64 word] 26) := d.own.drew
  have hng := d.nf
  have hng2 := d.ng
  have HI : Hid (Inv m) := d.hs.inv
  have hn6 : m.ths.length ≤ 1000000 := by omega
  obtain ⟨c0, c1, c2, c3, c4, c5, c6, c7⟩ := own8v d.own
  have hsd := d.hs.below (Below.refl _ W).drew
  have hc := pushS hsd hn6 ref word hr1 hr2 hword
  obtain ⟨V, hV⟩ : ∃ V, Hid (m.pushT ref = V) := ⟨_, rfl⟩
  rw [hV.out] at hc
  unfold maxLen at hcap
  subst hkd
  obtain ⟨B, hBB⟩ : ∃ B, Hid (w.heap.size = B) := ⟨_, rfl⟩
  rw [hBB.out] at c0 c1 c2 c3 c4 c5 c6 c7 hng hng2 HX
  clear d hsd
  go_enter Try.func12, Try.ntmps12
  go_upto_region 1 with fail
  rw [hW.out, hBB.out]
  go_upto_region 35 with fail
  go_region_held3 (fun w' => w'.cell? ⟨B, 5, none⟩ = some (.int .u64 ref) ∧ w'.cell? ⟨B, 7, none⟩ = some (.int .u64 word)) (go_keep) (first
    | (go_at_call 24; refine hc.mono ?_; clear hc; rintro e w2 ⟨rfl, r1⟩; have R1 : Hid _ := r1; have hc2 := pushR (pq_mid HR.out HD.out r1) HI.out hn6 ref word hr1 hr2; rw [hV.out] at hc2; obtain ⟨x0, x1, x2, x3, x4, x5, x6, x7⟩ := own8v (box_keep HX.out hng r1); have HX2 : Hid _ := box_keep HX.out hng r1; clear r1)
    | (go_at_call 37; refine hc2.mono ?_; clear hc2; rintro e w3 ⟨rfl, r2⟩; have R2 : Hid _ := r2; obtain ⟨z0, z1, z2, z3, z4, z5, z6, z7⟩ := own8v (box_keepR HX2.out hng2 r2); clear r2))
  all_goals (
    go_wp2_with fail
    go_ret
    exact ⟨by first | rfl | simp, (pq_end HR.out HD.out HA.out R1.out R2.out).base HB0.out⟩)
end Go.Proofs.Ytcohgbelcbniaaa
