import Derived.Test.YtjmdhfjemaoebaaGreatM0x36
import Derived.Test.YtjmdhfjemaoebaaGreatM0x37
namespace Go.Proofs.YtjmdhfjemaoebaaGreat
set_option maxRecDepth 20000
open Go.RowKit Go.Am
set_option linter.unusedSimpArgs false
attribute [local irreducible] aPlan aGet aIf aLoop aCall RetB NextB CallB CallG aCut aSet aAppend
set_option maxHeartbeats 8000000 in
theorem cutChanged_sound : Sound Tryz.prog 137 (fnNB (ι := Nat × Nd × Nat × Nd) 3 (fun | (c, x, d, a) => [.agg [.int .i64 x.op, .int .i64 x.a, .int .i64 x.b, .sl c x.l.length (x.l.map (.int .i64))], .agg [.int .i64 a.op, .int .i64 a.a, .int .i64 a.b, .sl d a.l.length (a.l.map (.int .i64))]]) (fun | (_, x, _, a) => (x.op = 10 → x.l.length = 3) ∧ (a.op = 10 → a.l.length = 3)) (fun | (_, x, _, a) => c6 x a)) := by
  refine sound_of Tryz.func137 rfl (enters_of Tryz.func137 (by kernel_rfl) (by kernel_rfl)) ?_
  rintro ⟨c, x, d, a⟩ hpre
  obtain ⟨hx, ha⟩ : (x.op = 10 → x.l.length = 3) ∧ (a.op = 10 → a.l.length = 3) := hpre
  have hmax : maxLen = 9223372036854775807 := rfl
  have t0 : Int.toNat 0 = 0 := rfl
  have t1 : Int.toNat 1 = 1 := rfl
  have t2 : Int.toNat 2 = 2 := rfl
  by_cases h1 : x.op = 10
  · have lx := hx h1
    by_cases h2 : a.op = 10
    · have la := ha h2
      by_cases h3 : x.l.getD (Int.toNat 0) 0 = a.l.getD (Int.toNat 0) 0
      · have hM : c6 x a = some ⟨10, a.a, 0, [x.l.getD (Int.toNat 0) 0, IntKind.i64.wrap (a.l.getD (Int.toNat 1) 0 + x.l.getD (Int.toNat 1) 0), x.l.getD (Int.toNat 2) 0]⟩ := if_pos (show c6P x a from ⟨h1, h2, h3⟩)
        conv => whnf
        repeat' (first
          | ((first | refine plan_in (id := 1) [0, 1, 2, 3, 4, 5, 6, 7, 8, 9, 10, 11, 12, 13, 14, 15, 16, 17, 18] (by kernel_rfl) (by kernel_rfl) ?_ | refine plan_in (id := 3) [0, 1, 2, 3, 4, 5, 6, 7, 8, 9, 10, 11, 12, 13, 14, 15, 16, 17, 18, 19, 20, 21] (by kernel_rfl) (by kernel_rfl) ?_ | refine aIf_t ?_ | refine aIf_f ?_ | refine get_int (by omega) ?_ | refine aGet_in rfl ?_ | refine And.intro (by omega) ?_ | refine And.intro rfl (And.intro (List.cons_ne_nil _ _) ?_) | refine And.intro (Nat.le_of_ble_eq_true rfl) ?_ | refine append_same ?_ | refine cutNode_call ?_ | refine takeN_in ?_ | refine set_force ?_ | refine And.intro (by kernel_rfl) ?_); conv => whnf) | refine aIf_eqf ?_
          | refine aIf_not ?_ | (refine aIf_dec (fun _ => ?_) (fun _ => ?_) <;> conv => whnf))
        all_goals (first | (exfalso; omega) | contradiction | skip)
        exact retNB_t hM rfl rfl rfl
      · have hM : c6 x a = none := if_neg fun h : c6P x a => h3 h.2.2
        conv => whnf
        repeat' (first
          | ((first | refine plan_in (id := 1) [0, 1, 2, 3, 4, 5, 6, 7, 8, 9, 10, 11, 12, 13, 14, 15, 16, 17, 18] (by kernel_rfl) (by kernel_rfl) ?_ | refine plan_in (id := 3) [0, 1, 2, 3, 4, 5, 6, 7, 8, 9, 10, 11, 12, 13, 14, 15, 16, 17, 18, 19, 20, 21] (by kernel_rfl) (by kernel_rfl) ?_ | refine aIf_t ?_ | refine aIf_f ?_ | refine get_nat (by omega) ?_ | refine get_int (by omega) ?_ | refine aGet_in rfl ?_ | refine And.intro (by omega) ?_ | refine And.intro rfl (And.intro (List.cons_ne_nil _ _) ?_) | refine And.intro (Nat.le_of_ble_eq_true rfl) ?_ | refine append_same ?_ | refine cutNode_call ?_ | refine takeN_in ?_ | refine set_force ?_ | refine And.intro (by kernel_rfl) ?_); conv => whnf) | refine aIf_eqf ?_
          | refine aIf_not ?_ | (refine aIf_dec (fun _ => ?_) (fun _ => ?_) <;> conv => whnf))
        all_goals (first | (exfalso; omega) | contradiction | skip)
        all_goals exact retNB_f hM rfl
    · have hM : c6 x a = none := if_neg fun h : c6P x a => h2 h.2.1
      conv => whnf
      repeat' (first
        | ((first | refine plan_in (id := 1) [0, 1, 2, 3, 4, 5, 6, 7, 8, 9, 10, 11, 12, 13, 14, 15, 16, 17, 18] (by kernel_rfl) (by kernel_rfl) ?_ | refine plan_in (id := 3) [0, 1, 2, 3, 4, 5, 6, 7, 8, 9, 10, 11, 12, 13, 14, 15, 16, 17, 18, 19, 20, 21] (by kernel_rfl) (by kernel_rfl) ?_ | refine aIf_t ?_ | refine aIf_f ?_ | refine get_nat (by omega) ?_ | refine aGet_in rfl ?_ | refine And.intro (by omega) ?_ | refine And.intro rfl (And.intro (List.cons_ne_nil _ _) ?_) | refine And.intro (Nat.le_of_ble_eq_true rfl) ?_ | refine append_same ?_ | refine cutNode_call ?_ | refine takeN_in ?_ | refine set_force ?_ | refine And.intro (by kernel_rfl) ?_); conv => whnf) | refine aIf_eqf ?_
        | refine aIf_not ?_ | (refine aIf_dec (fun _ => ?_) (fun _ => ?_) <;> conv => whnf))
      all_goals (first | (exfalso; omega) | contradiction | skip)
      all_goals exact retNB_f hM rfl
  · have hM : c6 x a = none := if_neg fun h : c6P x a => h1 h.1
    conv => whnf
    repeat' (first
      | ((first | refine plan_in (id := 1) [0, 1, 2, 3, 4, 5, 6, 7, 8, 9, 10, 11, 12, 13, 14, 15, 16, 17, 18] (by kernel_rfl) (by kernel_rfl) ?_ | refine plan_in (id := 3) [0, 1, 2, 3, 4, 5, 6, 7, 8, 9, 10, 11, 12, 13, 14, 15, 16, 17, 18, 19, 20, 21] (by kernel_rfl) (by kernel_rfl) ?_ | refine aIf_t ?_ | refine aIf_f ?_ | refine get_nat (by omega) ?_ | refine aGet_in rfl ?_ | refine And.intro (by omega) ?_ | refine And.intro rfl (And.intro (List.cons_ne_nil _ _) ?_) | refine And.intro (Nat.le_of_ble_eq_true rfl) ?_ | refine append_same ?_ | refine cutNode_call ?_ | refine takeN_in ?_ | refine set_force ?_ | refine And.intro (by kernel_rfl) ?_); conv => whnf) | refine aIf_eqf ?_
      | refine aIf_not ?_ | (refine aIf_dec (fun _ => ?_) (fun _ => ?_) <;> conv => whnf))
    all_goals (first | (exfalso; omega) | contradiction | skip)
    all_goals exact retNB_f hM rfl
theorem cutChanged_call {c d : Nat} {x a : Nd} {env : List AV} {rows : List Row} {ctr low : Nat} {k : AV → St → Prop} (hpre : (x.op = 10 → x.l.length = 3) ∧ (a.op = 10 → a.l.length = 3)) (h : k (.tup [.agg [.int .i64 ((c6 x a).getD default).op, .int .i64 ((c6 x a).getD default).a, .int .i64 ((c6 x a).getD default).b, .ref rows.length ctr 0 ((c6 x a).getD default).l.length], .bool (c6 x a).isSome]) ⟨env, rows ++ [⟨ctr, 3, 1, ((c6 x a).getD default).l.map (.int .i64)⟩], ctr + 1, low⟩) :
    CallB Tryz.prog 137 ⟨env, rows, ctr, low⟩ [.agg [.int .i64 x.op, .int .i64 x.a, .int .i64 x.b, .sl c x.l.length (x.l.map (.int .i64))], .agg [.int .i64 a.op, .int .i64 a.a, .int .i64 a.b, .sl d a.l.length (a.l.map (.int .i64))]] k := callNB_in cutChanged_sound (c, x, d, a) hpre h
end Go.Proofs.YtjmdhfjemaoebaaGreat
namespace Go.Proofs.YtjmdhfjemaoebaaGreat
set_option maxRecDepth 20000
open Go.RowKit Go.Am
set_option linter.unusedSimpArgs false
attribute [local irreducible] aPlan aGet aIf aLoop aCall RetB NextB CallB CallG aCut aSet aAppend
set_option maxHeartbeats 16000000 in
theorem nodeChanged_6 : Sound Tryz.prog 89 (sNC fun ch z => z ≠ 0 ∧ ch = 6) := by
  refine sound_of Tryz.func89 rfl (enters_of Tryz.func89 (by kernel_rfl) (by kernel_rfl)) ?_
  rintro ⟨c, d, xss, ns, ss, ch, q⟩ ⟨⟨hX, hq⟩, hc⟩
  have hX : ExI xss ns ss := hX
  have hq : q < ns.length := hq
  have hmax : maxLen = 9223372036854775807 := rfl
  have hz : pcN (ns.getD q default).op ≠ 0 := hc.1
  have h2 : 2 ≤ (ns.getD q default).op := by
    have hop := hX.op hq
    have hpc := pcN_cases (ns.getD q default).op
    omega
  obtain ⟨ha, hb⟩ := hX.ab hq h2
  have hsl := hX.len
  have pk := hX.c6pre hq h2
  have hc : ch = 6 := hc.2
  subst hc
  have hM : cX ns ss 6 q = _ := cX_6 hz
  conv => whnf
  repeat' (first
    | ((first | refine cutChanged_call pk ?_ | refine plan_in (id := 14) [0, 1, 2, 3, 4, 5, 6, 7, 8, 9, 10] (by kernel_rfl) (by kernel_rfl) ?_ | refine aIf_t ?_ | refine aIf_f ?_ | refine aGet_in rfl ?_ | refine And.intro (by omega) ?_ | refine load_same ?_ | refine And.intro (Nat.le_of_ble_eq_true rfl) ?_ | refine callG_t ?_ | refine append_same ?_ | refine part_nd_n (by omega) ?_ | refine part_nd (by omega) ?_ | refine partCount_call trivial ?_ | refine takeN_in ?_ | refine And.intro (pureL_ints _ _) ?_ | refine set_force ?_ | refine And.intro (by kernel_rfl) ?_); conv => whnf) | (refine aIf_dec (fun _ => ?_) (fun _ => ?_) <;> conv => whnf))
  all_goals (first | (exfalso; omega) | contradiction | skip)
  all_goals exact retNB (congrArg (Option.getD · default) hM) (congrArg Option.isSome hM) rfl rfl rfl
end Go.Proofs.YtjmdhfjemaoebaaGreat
namespace Go.Proofs.YtjmdhfjemaoebaaGreat
set_option maxRecDepth 20000
open Go.RowKit Go.Am
set_option linter.unusedSimpArgs false
attribute [local irreducible] aPlan aGet aIf aLoop aCall RetB NextB CallB CallG aCut aSet aAppend
set_option maxHeartbeats 16000000 in
theorem nodeChanged_7 : Sound Tryz.prog 89 (sNC fun ch z => z ≠ 0 ∧ ch = 7) := by
  refine sound_of Tryz.func89 rfl (enters_of Tryz.func89 (by kernel_rfl) (by kernel_rfl)) ?_
  rintro ⟨c, d, xss, ns, ss, ch, q⟩ ⟨⟨hX, hq⟩, hc⟩
  have hX : ExI xss ns ss := hX
  have hq : q < ns.length := hq
  have hmax : maxLen = 9223372036854775807 := rfl
  have hz : pcN (ns.getD q default).op ≠ 0 := hc.1
  have h2 : 2 ≤ (ns.getD q default).op := by
    have hop := hX.op hq
    have hpc := pcN_cases (ns.getD q default).op
    omega
  obtain ⟨ha, hb⟩ := hX.ab hq h2
  have hsl := hX.len
  have pk := hX.c7pre hq h2
  have hc : ch = 7 := hc.2
  subst hc
  have hM : cX ns ss 7 q = _ := cX_7 hz
  conv => whnf
  repeat' (first
    | ((first | refine partChanged_call pk ?_ | refine plan_in (id := 14) [0, 1, 2, 3, 4, 5, 6, 7, 8, 9, 10] (by kernel_rfl) (by kernel_rfl) ?_ | refine aIf_t ?_ | refine aIf_f ?_ | refine aGet_in rfl ?_ | refine And.intro (by omega) ?_ | refine load_same ?_ | refine And.intro (Nat.le_of_ble_eq_true rfl) ?_ | refine callG_t ?_ | refine append_same ?_ | refine part_nd_n (by omega) ?_ | refine part_nd (by omega) ?_ | refine And.intro (pureL_ii _ _) ?_ | refine partCount_call trivial ?_ | refine takeN_in ?_ | refine And.intro (pureL_ints _ _) ?_ | refine set_force ?_ | refine And.intro (by kernel_rfl) ?_); conv => whnf) | (refine aIf_dec (fun _ => ?_) (fun _ => ?_) <;> conv => whnf))
  all_goals (first | (exfalso; omega) | contradiction | skip)
  all_goals exact retNB (congrArg (Option.getD · default) hM) (congrArg Option.isSome hM) rfl rfl rfl
end Go.Proofs.YtjmdhfjemaoebaaGreat
namespace Go.Proofs.YtjmdhfjemaoebaaGreat
set_option maxRecDepth 20000
open Go.RowKit Go.Am
set_option linter.unusedSimpArgs false
attribute [local irreducible] aPlan aGet aIf aLoop aCall RetB NextB CallB CallG aCut aSet aAppend
set_option maxHeartbeats 8000000 in
theorem swapChanged_sound : Sound Tryz.prog 139 (fnNB (ι := Nat × Nd) 3 (fun | (c, x) => [.agg [.int .i64 x.op, .int .i64 x.a, .int .i64 x.b, .sl c x.l.length (x.l.map (.int .i64))]]) (fun _ => True) (fun | (_, x) => c8 x)) := by
  refine sound_of Tryz.func139 rfl (enters_of Tryz.func139 (by kernel_rfl) (by kernel_rfl)) ?_
  rintro ⟨c, x⟩ -
  by_cases h : (x.op = 2 ∨ x.op = 4 ∨ x.op = 5) ∧ x.b < x.a
  · have hM : c8 x = some ⟨x.op, x.b, x.a, []⟩ := if_pos h
    conv => whnf
    repeat' (first
      | ((first | refine aIf_t ?_ | refine aIf_f ?_ | refine aGet_in rfl ?_ | refine And.intro (by omega) ?_ | refine And.intro rfl (And.intro (List.cons_ne_nil _ _) ?_) | refine And.intro (Nat.le_of_ble_eq_true rfl) ?_ | refine append_same ?_ | refine takeN_in ?_ | refine set_force ?_ | refine And.intro (by kernel_rfl) ?_); conv => whnf) | refine aIf_eqt ?_
      | refine aIf_eqf ?_ | refine aIf_not ?_
      | (refine aIf_dec (fun _ => ?_) (fun _ => ?_) <;> conv => whnf))
    all_goals (first | (exfalso; omega) | contradiction | skip)
    all_goals exact retNB_t hM rfl rfl rfl
  · have hM : c8 x = none := if_neg h
    conv => whnf
    repeat' (first
      | ((first | refine aIf_t ?_ | refine aIf_f ?_ | refine aGet_in rfl ?_ | refine And.intro (by omega) ?_ | refine And.intro rfl (And.intro (List.cons_ne_nil _ _) ?_) | refine And.intro (Nat.le_of_ble_eq_true rfl) ?_ | refine append_same ?_ | refine takeN_in ?_ | refine set_force ?_ | refine And.intro (by kernel_rfl) ?_); conv => whnf) | refine aIf_eqt ?_
      | refine aIf_eqf ?_ | refine aIf_not ?_
      | (refine aIf_dec (fun _ => ?_) (fun _ => ?_) <;> conv => whnf))
    all_goals (first | (exfalso; omega) | contradiction | skip)
    all_goals exact retNB_f hM rfl
theorem swapChanged_call {c : Nat} {x : Nd} {env : List AV} {rows : List Row} {ctr low : Nat} {k : AV → St → Prop} (hpre : True) (h : k (.tup [.agg [.int .i64 ((c8 x).getD default).op, .int .i64 ((c8 x).getD default).a, .int .i64 ((c8 x).getD default).b, .ref rows.length ctr 0 ((c8 x).getD default).l.length], .bool (c8 x).isSome]) ⟨env, rows ++ [⟨ctr, 3, 1, ((c8 x).getD default).l.map (.int .i64)⟩], ctr + 1, low⟩) :
    CallB Tryz.prog 139 ⟨env, rows, ctr, low⟩ [.agg [.int .i64 x.op, .int .i64 x.a, .int .i64 x.b, .sl c x.l.length (x.l.map (.int .i64))]] k := callNB_in swapChanged_sound (c, x) hpre h
end Go.Proofs.YtjmdhfjemaoebaaGreat
namespace Go.Proofs.YtjmdhfjemaoebaaGreat
set_option maxRecDepth 20000
open Go.RowKit Go.Am
set_option linter.unusedSimpArgs false
attribute [local irreducible] aPlan aGet aIf aLoop aCall RetB NextB CallB CallG aCut aSet aAppend
set_option maxHeartbeats 16000000 in
theorem nodeChanged_8 : Sound Tryz.prog 89 (sNC fun ch z => z ≠ 0 ∧ ch = 8) := by
  refine sound_of Tryz.func89 rfl (enters_of Tryz.func89 (by kernel_rfl) (by kernel_rfl)) ?_
  rintro ⟨c, d, xss, ns, ss, ch, q⟩ ⟨⟨hX, hq⟩, hc⟩
  have hX : ExI xss ns ss := hX
  have hq : q < ns.length := hq
  have hmax : maxLen = 9223372036854775807 := rfl
  have hz : pcN (ns.getD q default).op ≠ 0 := hc.1
  have h2 : 2 ≤ (ns.getD q default).op := by
    have hop := hX.op hq
    have hpc := pcN_cases (ns.getD q default).op
    omega
  obtain ⟨ha, hb⟩ := hX.ab hq h2
  have hsl := hX.len
  have pk : True := trivial
  have hc : ch = 8 := hc.2
  subst hc
  have hM : cX ns ss 8 q = _ := cX_8 hz
  conv => whnf
  repeat' (first
    | ((first | refine swapChanged_call pk ?_ | refine plan_in (id := 14) [0, 1, 2, 3, 4, 5, 6, 7, 8, 9, 10] (by kernel_rfl) (by kernel_rfl) ?_ | refine aIf_t ?_ | refine aIf_f ?_ | refine aGet_in rfl ?_ | refine And.intro (by omega) ?_ | refine load_same ?_ | refine And.intro (Nat.le_of_ble_eq_true rfl) ?_ | refine callG_t ?_ | refine append_same ?_ | refine part_nd_n (by omega) ?_ | refine part_nd (by omega) ?_ | refine partCount_call trivial ?_ | refine takeN_in ?_ | refine And.intro (pureL_ints _ _) ?_ | refine set_force ?_ | refine And.intro (by kernel_rfl) ?_); conv => whnf) | (refine aIf_dec (fun _ => ?_) (fun _ => ?_) <;> conv => whnf))
  all_goals (first | (exfalso; omega) | contradiction | skip)
  all_goals exact retNB (congrArg (Option.getD · default) hM) (congrArg Option.isSome hM) rfl rfl rfl
end Go.Proofs.YtjmdhfjemaoebaaGreat
namespace Go.Proofs.YtjmdhfjemaoebaaGreat
set_option maxRecDepth 20000
open Go.RowKit Go.Am
set_option linter.unusedSimpArgs false
attribute [local irreducible] aPlan aGet aIf aLoop aCall RetB NextB CallB CallG aCut aSet aAppend
theorem nodeChanged_sound : Sound Tryz.prog 89 (sNC fun _ _ => True) := by
  refine ⟨nodeChanged_z.1, ?_⟩
  rintro ⟨c, d, xss, ns, ss, ch, q⟩ ⟨h, -⟩
  by_cases hz : pcN (ns.getD q default).op = 0
  · exact nodeChanged_z.2 (c, d, xss, ns, ss, ch, q) ⟨h, hz⟩
  · by_cases hc : 1 ≤ ch ∧ ch ≤ 8
    · rcases (show ch = 1 ∨ ch = 2 ∨ ch = 3 ∨ ch = 4 ∨ ch = 5 ∨ ch = 6 ∨ ch = 7 ∨ ch = 8 by omega) with e | e | e | e | e | e | e | e
      · exact nodeChanged_1.2 (c, d, xss, ns, ss, ch, q) ⟨h, hz, e⟩
      · exact nodeChanged_2.2 (c, d, xss, ns, ss, ch, q) ⟨h, hz, e⟩
      · exact nodeChanged_3.2 (c, d, xss, ns, ss, ch, q) ⟨h, hz, e⟩
      · exact nodeChanged_4.2 (c, d, xss, ns, ss, ch, q) ⟨h, hz, e⟩
      · exact nodeChanged_5.2 (c, d, xss, ns, ss, ch, q) ⟨h, hz, e⟩
      · exact nodeChanged_6.2 (c, d, xss, ns, ss, ch, q) ⟨h, hz, e⟩
      · exact nodeChanged_7.2 (c, d, xss, ns, ss, ch, q) ⟨h, hz, e⟩
      · exact nodeChanged_8.2 (c, d, xss, ns, ss, ch, q) ⟨h, hz, e⟩
    · exact nodeChanged_n.2 (c, d, xss, ns, ss, ch, q) ⟨h, hz, hc⟩
theorem nodeChanged_call {c d p : Nat} {ch : Int} {xss ss : List (List Int)} {ns : List Nd} {env : List AV} {rows : List Row} {ctr low : Nat} {k : AV → St → Prop} (hX : ExI xss ns ss) (hp : p < ns.length) (h : k (.tup [.agg [.int .i64 ((cX ns ss ch p).getD default).op, .int .i64 ((cX ns ss ch p).getD default).a, .int .i64 ((cX ns ss ch p).getD default).b, .ref rows.length ctr 0 ((cX ns ss ch p).getD default).l.length], .bool (cX ns ss ch p).isSome]) ⟨env, rows ++ [⟨ctr, 3, 1, ((cX ns ss ch p).getD default).l.map (.int .i64)⟩], ctr + 1, low⟩) :
    CallB Tryz.prog 89 ⟨env, rows, ctr, low⟩ [.sl c ns.length (ns.flatMap (ndC c)), .sl d ss.length (ss.map (slI d)), .int .i64 ch, .int .i64 p] k := callNB_in nodeChanged_sound (c, d, xss, ns, ss, ch, p) ⟨⟨hX, hp⟩, trivial⟩ h
end Go.Proofs.YtjmdhfjemaoebaaGreat
namespace Go.Proofs.YtjmdhfjemaoebaaGreat
set_option maxRecDepth 20000
open Go.RowKit Go.Am
set_option linter.unusedSimpArgs false
attribute [local irreducible] aPlan aGet aIf aLoop aCall RetB NextB CallB CallG aCut aSet aAppend
set_option maxHeartbeats 8000000 in
theorem l6Ok_0 : Sound Tryz.prog 78 (sOk fun ch => ch = 0) := by
  refine sound_of Tryz.func78 rfl (enters_of Tryz.func78 (by kernel_rfl) (by kernel_rfl)) ?_
  rintro ⟨c, xss, ns, ch, q⟩ ⟨⟨hE, hM, hq⟩, hc⟩
  have hE : eP ns := hE
  have hM : (shM xss ns).2 = true := hM
  have hq : q < ns.length := hq
  have hc : ch = 0 := hc
  subst hc
  have hX := exI_of hM
  have h12 := hX.n12
  have hop := hX.op hq
  have hmax : maxLen = 9223372036854775807 := rfl
  have hpc := pcN_cases (ns.getD q default).op
  have hnl := neL_len hM
  conv => whnf
  repeat' (first
    | ((first | refine plan_in (id := 6) [0, 1, 2, 3, 4, 6, 7, 5, 8, 9, 10, 11, 12, 13, 14, 15, 16, 17, 19, 20, 18, 21, 22, 23, 24] (by kernel_rfl) (by kernel_rfl) ?_ | refine plan_in (id := 16) [0, 1, 2, 3, 4, 5, 6, 7, 8, 9, 10, 11, 12, 13, 14, 15, 16, 17, 18, 19, 20, 21, 22, 23, 24, 25] (by kernel_rfl) (by kernel_rfl) ?_ | refine aIf_t ?_ | refine aGet_in rfl ?_ | refine And.intro (by omega) ?_ | refine load_same ?_ | refine And.intro rfl (And.intro (List.cons_ne_nil _ _) ?_) | refine And.intro (Nat.le_of_ble_eq_true rfl) ?_ | refine callG_t ?_ | refine append_same ?_ | refine part_nd_n (by omega) ?_ | refine And.intro (pureL_ii _ _) ?_ | refine And.intro (pureL_nd _ _) ?_ | refine getb_n (by omega) ?_ | refine sNeededOf_call (by assumption) ?_ | refine takeN_in ?_ | refine set_force ?_ | refine And.intro (by kernel_rfl) ?_); conv => whnf))
  all_goals (first | (exfalso; omega) | contradiction | skip)
  refine retS rfl (congrArg AV.bool ?_)
  show (!(neL xss ns).getD ((q : Int).toNat * 1) false) = okC xss ns 0 q
  rw [okC_0, Int.toNat_natCast, Nat.mul_one]
end Go.Proofs.YtjmdhfjemaoebaaGreat
namespace Go.Proofs.YtjmdhfjemaoebaaGreat
set_option maxRecDepth 20000
open Go.RowKit Go.Am
set_option linter.unusedSimpArgs false
attribute [local irreducible] aPlan aGet aIf aLoop aCall RetB NextB CallB CallG aCut aSet aAppend
set_option maxHeartbeats 8000000 in
theorem l6Ok_1 : Sound Tryz.prog 78 (sOk fun ch => ch = 1) := by
  refine sound_of Tryz.func78 rfl (enters_of Tryz.func78 (by kernel_rfl) (by kernel_rfl)) ?_
  rintro ⟨c, xss, ns, ch, q⟩ ⟨⟨hE, hM, hq⟩, hc⟩
  have hE : eP ns := hE
  have hM : (shM xss ns).2 = true := hM
  have hq : q < ns.length := hq
  have hc : ch = 1 := hc
  subst hc
  have hX := exI_of hM
  have h12 := hX.n12
  have hop := hX.op hq
  have hmax : maxLen = 9223372036854775807 := rfl
  have hpc := pcN_cases (ns.getD q default).op
  by_cases hz : pcN (ns.getD q default).op = 0
  · have hv : okC xss ns 1 q = false := by rw [okC_s (by decide), cX_0 hz]; rfl
    have t1 : ¬ (6 ≤ (ns.getD q default).op ∧ (ns.getD q default).op ≤ 10) := by omega
    have t2 : ¬ twoP3 (ns.getD q default).op := by unfold twoP3; omega
    conv => whnf
    repeat' (first
      | ((first | refine plan_in (id := 6) [0, 1, 2, 3, 4, 6, 7, 5, 8, 9, 10, 11, 12, 13, 14, 15, 16, 17, 19, 20, 18, 21, 22, 23, 24] (by kernel_rfl) (by kernel_rfl) ?_ | refine plan_in (id := 16) [0, 1, 2, 3, 4, 5, 6, 7, 8, 9, 10, 11, 12, 13, 14, 15, 16, 17, 18, 19, 20, 21, 22, 23, 24, 25] (by kernel_rfl) (by kernel_rfl) ?_ | refine aIf_t ?_ | refine aIf_f ?_ | refine aGet_in rfl ?_ | refine And.intro (by omega) ?_ | refine load_same ?_ | refine And.intro rfl (And.intro (List.cons_ne_nil _ _) ?_) | refine And.intro (Nat.le_of_ble_eq_true rfl) ?_ | refine callG_t ?_ | refine append_same ?_ | refine part_nd_n (by omega) ?_ | refine And.intro (pureL_ii _ _) ?_ | refine And.intro (pureL_nd _ _) ?_ | refine l3Two_call trivial ?_ | refine l3One_call trivial ?_ | refine l6First_call (by omega) ?_ | refine takeN_in ?_ | refine set_force ?_ | refine And.intro (by kernel_rfl) ?_); conv => whnf) | refine aIf_eqt ?_
      | refine aIf_eqf ?_ | refine aIf_not ?_
      | (refine aIf_dec (fun _ => ?_) (fun _ => ?_) <;> conv => whnf))
    all_goals (first | (exfalso; omega) | contradiction | skip)
    all_goals exact retS rfl (congrArg AV.bool (by rw [hv]))
  · obtain ⟨ha, hb⟩ := hX.ab hq (by omega)
    have hv : okC xss ns 1 q = decide (¬ ((fsN ns (ns.getD q default).a.toNat : Int) = (ns.getD q default).a ∧ (fsN ns (ns.getD q default).b.toNat : Int) = (ns.getD q default).b)) := by rw [okC_s (by decide), cX_1 hz, c1_is]
    by_cases h1 : 6 ≤ (ns.getD q default).op ∧ (ns.getD q default).op ≤ 10
    · have t2 : ¬ twoP3 (ns.getD q default).op := by unfold twoP3; omega
      have hb0 := hX.b0 hq (.inr h1)
      have eb : (fsN ns (ns.getD q default).b.toNat : Int) = (ns.getD q default).b := by rw [hb0]; rfl
      by_cases ea : (fsN ns (ns.getD q default).a.toNat : Int) = (ns.getD q default).a
      · have hv : okC xss ns 1 q = false := hv.trans (decide_eq_false fun h => h ⟨ea, eb⟩)
        conv => whnf
        repeat' (first
          | ((first | refine plan_in (id := 6) [0, 1, 2, 3, 4, 6, 7, 5, 8, 9, 10, 11, 12, 13, 14, 15, 16, 17, 19, 20, 18, 21, 22, 23, 24] (by kernel_rfl) (by kernel_rfl) ?_ | refine plan_in (id := 16) [0, 1, 2, 3, 4, 5, 6, 7, 8, 9, 10, 11, 12, 13, 14, 15, 16, 17, 18, 19, 20, 21, 22, 23, 24, 25] (by kernel_rfl) (by kernel_rfl) ?_ | refine aIf_t ?_ | refine aIf_f ?_ | refine aGet_in rfl ?_ | refine And.intro (by omega) ?_ | refine load_same ?_ | refine And.intro rfl (And.intro (List.cons_ne_nil _ _) ?_) | refine And.intro (Nat.le_of_ble_eq_true rfl) ?_ | refine callG_t ?_ | refine append_same ?_ | refine part_nd_n (by omega) ?_ | refine And.intro (pureL_ii _ _) ?_ | refine And.intro (pureL_nd _ _) ?_ | refine l3Two_call trivial ?_ | refine l3One_call trivial ?_ | refine l6First_call (by omega) ?_ | refine takeN_in ?_ | refine set_force ?_ | refine And.intro (by kernel_rfl) ?_); conv => whnf) | refine aIf_eqt ?_
          | refine aIf_eqf ?_ | refine aIf_not ?_
          | (refine aIf_dec (fun _ => ?_) (fun _ => ?_) <;> conv => whnf))
        all_goals (first | (exfalso; omega) | contradiction | skip)
        all_goals exact retS rfl (congrArg AV.bool (by rw [hv]; try first | exact bne_f eb | exact bne_t eb | exact bne_f ea | exact bne_t ea))
      · have hv : okC xss ns 1 q = true := hv.trans (decide_eq_true fun h => ea h.1)
        conv => whnf
        repeat' (first
          | ((first | refine plan_in (id := 6) [0, 1, 2, 3, 4, 6, 7, 5, 8, 9, 10, 11, 12, 13, 14, 15, 16, 17, 19, 20, 18, 21, 22, 23, 24] (by kernel_rfl) (by kernel_rfl) ?_ | refine plan_in (id := 16) [0, 1, 2, 3, 4, 5, 6, 7, 8, 9, 10, 11, 12, 13, 14, 15, 16, 17, 18, 19, 20, 21, 22, 23, 24, 25] (by kernel_rfl) (by kernel_rfl) ?_ | refine aIf_t ?_ | refine aIf_f ?_ | refine aGet_in rfl ?_ | refine And.intro (by omega) ?_ | refine load_same ?_ | refine And.intro rfl (And.intro (List.cons_ne_nil _ _) ?_) | refine And.intro (Nat.le_of_ble_eq_true rfl) ?_ | refine callG_t ?_ | refine append_same ?_ | refine part_nd_n (by omega) ?_ | refine And.intro (pureL_ii _ _) ?_ | refine And.intro (pureL_nd _ _) ?_ | refine l3Two_call trivial ?_ | refine l3One_call trivial ?_ | refine l6First_call (by omega) ?_ | refine takeN_in ?_ | refine set_force ?_ | refine And.intro (by kernel_rfl) ?_); conv => whnf) | refine aIf_eqt ?_
          | refine aIf_eqf ?_ | refine aIf_not ?_
          | (refine aIf_dec (fun _ => ?_) (fun _ => ?_) <;> conv => whnf))
        all_goals (first | (exfalso; omega) | contradiction | skip)
        all_goals exact retS rfl (congrArg AV.bool (by rw [hv]; try first | exact bne_f eb | exact bne_t eb | exact bne_f ea | exact bne_t ea))
    · have t2 : twoP3 (ns.getD q default).op := by unfold twoP3; omega
      by_cases ea : (fsN ns (ns.getD q default).a.toNat : Int) = (ns.getD q default).a
      · by_cases eb : (fsN ns (ns.getD q default).b.toNat : Int) = (ns.getD q default).b
        · have hv : okC xss ns 1 q = false := hv.trans (decide_eq_false fun h => h ⟨ea, eb⟩)
          conv => whnf
          repeat' (first
            | ((first | refine plan_in (id := 6) [0, 1, 2, 3, 4, 6, 7, 5, 8, 9, 10, 11, 12, 13, 14, 15, 16, 17, 19, 20, 18, 21, 22, 23, 24] (by kernel_rfl) (by kernel_rfl) ?_ | refine plan_in (id := 16) [0, 1, 2, 3, 4, 5, 6, 7, 8, 9, 10, 11, 12, 13, 14, 15, 16, 17, 18, 19, 20, 21, 22, 23, 24, 25] (by kernel_rfl) (by kernel_rfl) ?_ | refine aIf_t ?_ | refine aIf_f ?_ | refine aGet_in rfl ?_ | refine And.intro (by omega) ?_ | refine load_same ?_ | refine And.intro rfl (And.intro (List.cons_ne_nil _ _) ?_) | refine And.intro (Nat.le_of_ble_eq_true rfl) ?_ | refine callG_t ?_ | refine append_same ?_ | refine part_nd_n (by omega) ?_ | refine And.intro (pureL_ii _ _) ?_ | refine And.intro (pureL_nd _ _) ?_ | refine l3Two_call trivial ?_ | refine l3One_call trivial ?_ | refine l6First_call (by omega) ?_ | refine takeN_in ?_ | refine set_force ?_ | refine And.intro (by kernel_rfl) ?_); conv => whnf) | refine aIf_eqt ?_
            | refine aIf_eqf ?_ | refine aIf_not ?_
            | (refine aIf_dec (fun _ => ?_) (fun _ => ?_) <;> conv => whnf))
          all_goals (first | (exfalso; omega) | contradiction | skip)
          all_goals exact retS rfl (congrArg AV.bool (by rw [hv]; try first | exact bne_f eb | exact bne_f ea))
        · have hv : okC xss ns 1 q = true := hv.trans (decide_eq_true fun h => eb h.2)
          conv => whnf
          repeat' (first
            | ((first | refine plan_in (id := 6) [0, 1, 2, 3, 4, 6, 7, 5, 8, 9, 10, 11, 12, 13, 14, 15, 16, 17, 19, 20, 18, 21, 22, 23, 24] (by kernel_rfl) (by kernel_rfl) ?_ | refine plan_in (id := 16) [0, 1, 2, 3, 4, 5, 6, 7, 8, 9, 10, 11, 12, 13, 14, 15, 16, 17, 18, 19, 20, 21, 22, 23, 24, 25] (by kernel_rfl) (by kernel_rfl) ?_ | refine aIf_t ?_ | refine aIf_f ?_ | refine aGet_in rfl ?_ | refine And.intro (by omega) ?_ | refine load_same ?_ | refine And.intro rfl (And.intro (List.cons_ne_nil _ _) ?_) | refine And.intro (Nat.le_of_ble_eq_true rfl) ?_ | refine callG_t ?_ | refine append_same ?_ | refine part_nd_n (by omega) ?_ | refine And.intro (pureL_ii _ _) ?_ | refine And.intro (pureL_nd _ _) ?_ | refine l3Two_call trivial ?_ | refine l3One_call trivial ?_ | refine l6First_call (by omega) ?_ | refine takeN_in ?_ | refine set_force ?_ | refine And.intro (by kernel_rfl) ?_); conv => whnf) | refine aIf_eqt ?_
            | refine aIf_eqf ?_ | refine aIf_not ?_
            | (refine aIf_dec (fun _ => ?_) (fun _ => ?_) <;> conv => whnf))
          all_goals (first | (exfalso; omega) | contradiction | skip)
          all_goals exact retS rfl (congrArg AV.bool (by rw [hv]; try first | exact bne_f eb | exact bne_t eb | exact bne_f ea | exact bne_t ea))
      · have hv : okC xss ns 1 q = true := hv.trans (decide_eq_true fun h => ea h.1)
        conv => whnf
        repeat' (first
          | ((first | refine plan_in (id := 6) [0, 1, 2, 3, 4, 6, 7, 5, 8, 9, 10, 11, 12, 13, 14, 15, 16, 17, 19, 20, 18, 21, 22, 23, 24] (by kernel_rfl) (by kernel_rfl) ?_ | refine plan_in (id := 16) [0, 1, 2, 3, 4, 5, 6, 7, 8, 9, 10, 11, 12, 13, 14, 15, 16, 17, 18, 19, 20, 21, 22, 23, 24, 25] (by kernel_rfl) (by kernel_rfl) ?_ | refine aIf_t ?_ | refine aIf_f ?_ | refine aGet_in rfl ?_ | refine And.intro (by omega) ?_ | refine load_same ?_ | refine And.intro rfl (And.intro (List.cons_ne_nil _ _) ?_) | refine And.intro (Nat.le_of_ble_eq_true rfl) ?_ | refine callG_t ?_ | refine append_same ?_ | refine part_nd_n (by omega) ?_ | refine And.intro (pureL_ii _ _) ?_ | refine And.intro (pureL_nd _ _) ?_ | refine l3Two_call trivial ?_ | refine l3One_call trivial ?_ | refine l6First_call (by omega) ?_ | refine takeN_in ?_ | refine set_force ?_ | refine And.intro (by kernel_rfl) ?_); conv => whnf) | refine aIf_eqt ?_
          | refine aIf_eqf ?_ | refine aIf_not ?_
          | (refine aIf_dec (fun _ => ?_) (fun _ => ?_) <;> conv => whnf))
        all_goals (first | (exfalso; omega) | contradiction | skip)
        all_goals exact retS rfl (congrArg AV.bool (by rw [hv]; try first | exact bne_f eb | exact bne_t eb | exact bne_f ea | exact bne_t ea))
end Go.Proofs.YtjmdhfjemaoebaaGreat
