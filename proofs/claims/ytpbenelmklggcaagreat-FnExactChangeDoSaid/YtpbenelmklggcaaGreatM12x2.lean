import Derived.Test.YtpbenelmklggcaaGreatM12x1
import Derived.Test.YtpbenelmklggcaaGreatM012x30
namespace Go.Proofs.YtpbenelmklggcaaGreat
set_option maxRecDepth 20000
open Go.RowKit Go.Am
set_option linter.unusedSimpArgs false
attribute [local irreducible] aPlan aGet aIf aLoop aCall RetB NextB CallB CallG aCut aSet aAppend
set_option maxHeartbeats 16000000 in
theorem l6Do_4 : Sound Tryz.prog 26 (sDo fun ch => ch = 4) := by
  refine sound_of Tryz.func26 rfl (enters_of Tryz.func26 (by kernel_rfl) (by kernel_rfl)) ?_
  rintro ⟨xss, ns, ch, q, x, n⟩ ⟨⟨⟨hE, hM, hq⟩, hx, hn⟩, hc⟩
  have hE : eP ns := hE
  have hM : (shM xss ns).2 = true := hM
  have hq : q < ns.length := hq
  have hx : x = ns.getD q default := hx
  have hn : cX ns (shM xss ns).1 ch q = some n := hn
  have hc : ch = 4 := hc
  subst hc
  subst hx
  have hX := exI_of hM
  have hz := cX_pc hn
  have h2 : 2 ≤ (ns.getD q default).op := by
    have hop := hX.op hq
    have hpc := pcN_cases (ns.getD q default).op
    omega
  obtain ⟨ha, hb⟩ := hX.ab hq h2
  have h12 := hX.n12
  have hsl := hX.len
  have hmax : maxLen = 9223372036854775807 := rfl
  rw [cX_4 hz] at hn
  obtain ⟨h6, rfl⟩ := some_of (show (if _ then some _ else none : Option Nd) = some n from hn)
  have hqa : (ns.getD q default).a.toNat < ns.length := by omega
  have h6a : (ns.getD (ns.getD q default).a.toNat default).op = 6 := h6.2
  have haa := hX.a hqa (by omega)
  have hs1 := hX.neg hq h6.1
  have hs2 := hX.neg hqa h6a
  conv => whnf
  repeat' (first
    | ((first | refine plan_in (id := 8) [0, 1, 2, 3, 4, 5, 6, 7, 8] (by kernel_rfl) (by kernel_rfl) ?_ | refine plan_in (id := 13) [0, 1, 2, 3, 4, 5, 6, 7, 8] (by kernel_rfl) (by kernel_rfl) ?_ | refine plan_in (id := 16) [0, 1, 2, 3, 4, 5, 6, 7, 8, 9, 10] (by kernel_rfl) (by kernel_rfl) ?_ | refine plan_in (id := 17) [0, 1, 2, 3, 4, 5, 6, 7, 8, 9, 10, 11, 12, 13] (by kernel_rfl) (by kernel_rfl) ?_ | refine plan_in (id := 19) [0, 1, 2, 3, 4, 5, 6, 7, 8, 9, 10, 11, 12, 13, 14, 15, 16, 17, 18, 19, 20, 21] (by kernel_rfl) (by kernel_rfl) ?_ | refine plan_in (id := 24) [0, 1, 2, 3, 4, 5, 6, 7, 8, 9, 10, 11, 12, 13, 14, 15, 16, 17, 18, 19, 20, 21, 22, 23, 24, 25, 26, 27, 28] (by kernel_rfl) (by kernel_rfl) ?_ | refine aIf_t ?_ | refine aIf_f ?_ | refine aGet_in rfl ?_ | refine And.intro (by omega) ?_ | refine load_same ?_ | refine And.intro rfl (And.intro (List.cons_ne_nil _ _) ?_) | refine And.intro (Nat.le_of_ble_eq_true rfl) ?_ | refine callG_t ?_ | refine append_same ?_ | refine part_nd (by omega) ?_ | refine And.intro (pureL_ii _ _) ?_ | refine And.intro (pureL_nd _ _) ?_ | refine sShapesOf_call (by assumption) ?_ | refine get_oi (by omega) ?_ | refine get_oi (by omega) ?_ | refine get_oi (by omega) ?_ | refine takeN_in ?_ | refine set_force ?_ | refine And.intro (by kernel_rfl) ?_); conv => whnf))
  all_goals (first | (exfalso; omega) | contradiction | skip)
  exact retDoR (zs := (shM xss ns).1.getD (ns.getD (ns.getD q default).a.toNat default).a.toNat []) (by rw [hs1, hs2]) rfl rfl rfl
end Go.Proofs.YtpbenelmklggcaaGreat
namespace Go.Proofs.YtpbenelmklggcaaGreat
set_option maxRecDepth 20000
open Go.RowKit Go.Am
set_option linter.unusedSimpArgs false
attribute [local irreducible] aPlan aGet aIf aLoop aCall RetB NextB CallB CallG aCut aSet aAppend
set_option maxHeartbeats 16000000 in
theorem l6Do_5 : Sound Tryz.prog 26 (sDo fun ch => ch = 5) := by
  refine sound_of Tryz.func26 rfl (enters_of Tryz.func26 (by kernel_rfl) (by kernel_rfl)) ?_
  rintro ⟨xss, ns, ch, q, x, n⟩ ⟨⟨⟨hE, hM, hq⟩, hx, hn⟩, hc⟩
  have hE : eP ns := hE
  have hM : (shM xss ns).2 = true := hM
  have hq : q < ns.length := hq
  have hx : x = ns.getD q default := hx
  have hn : cX ns (shM xss ns).1 ch q = some n := hn
  have hc : ch = 5 := hc
  subst hc
  subst hx
  have hX := exI_of hM
  have hz := cX_pc hn
  have h2 : 2 ≤ (ns.getD q default).op := by
    have hop := hX.op hq
    have hpc := pcN_cases (ns.getD q default).op
    omega
  obtain ⟨ha, hb⟩ := hX.ab hq h2
  have h12 := hX.n12
  have hsl := hX.len
  have hmax : maxLen = 9223372036854775807 := rfl
  rw [cX_5 hz] at hn
  have hb0 : 0 ≤ (ns.getD q default).b ∧ (ns.getD q default).b < ns.length := by omega
  have hn : c5 (ns.getD q default) (ns.getD (ns.getD q default).a.toNat default) (ns.getD (ns.getD q default).b.toNat default) = some n := hn
  have hi : (c5 (ns.getD q default) (ns.getD (ns.getD q default).a.toNat default) (ns.getD (ns.getD q default).b.toNat default)).isSome = true := by rw [hn]; rfl
  rw [c5_is] at hi
  have hi := of_decide_eq_true hi
  unfold c5 at hn
  by_cases e2 : (ns.getD q default).op = 2
  · rw [if_pos (by omega)] at hn
    obtain rfl := (Option.some.inj hn).symm
    have hw : IntKind.i64.wrap (5 - (ns.getD q default).op) = 3 := by rw [e2]; rfl
    conv => whnf
    repeat' (first
      | ((first | refine plan_in (id := 8) [0, 1, 2, 3, 4, 5, 6, 7, 8] (by kernel_rfl) (by kernel_rfl) ?_ | refine plan_in (id := 13) [0, 1, 2, 3, 4, 5, 6, 7, 8] (by kernel_rfl) (by kernel_rfl) ?_ | refine plan_in (id := 16) [0, 1, 2, 3, 4, 5, 6, 7, 8, 9, 10] (by kernel_rfl) (by kernel_rfl) ?_ | refine plan_in (id := 17) [0, 1, 2, 3, 4, 5, 6, 7, 8, 9, 10, 11, 12, 13] (by kernel_rfl) (by kernel_rfl) ?_ | refine plan_in (id := 19) [0, 1, 2, 3, 4, 5, 6, 7, 8, 9, 10, 11, 12, 13, 14, 15, 16, 17, 18, 19, 20, 21] (by kernel_rfl) (by kernel_rfl) ?_ | refine plan_in (id := 24) [0, 1, 2, 3, 4, 5, 6, 7, 8, 9, 10, 11, 12, 13, 14, 15, 16, 17, 18, 19, 20, 21, 22, 23, 24, 25, 26, 27, 28] (by kernel_rfl) (by kernel_rfl) ?_ | refine aIf_t ?_ | refine aIf_f ?_ | refine aGet_in rfl ?_ | refine And.intro (by omega) ?_ | refine load_same ?_ | refine And.intro rfl (And.intro (List.cons_ne_nil _ _) ?_) | refine And.intro (Nat.le_of_ble_eq_true rfl) ?_ | refine callG_t ?_ | refine append_same ?_ | refine get_nd_n (by omega) rfl ?_ | refine get_nd (by omega) rfl ?_ | refine part_nd (by omega) ?_ | refine And.intro (pureL_ii _ _) ?_ | refine And.intro (pureL_nd _ _) ?_ | refine sShapesOf_call (by assumption) ?_ | refine takeN_in ?_ | refine set_force ?_ | refine And.intro (by kernel_rfl) ?_); conv => whnf) | (refine aIf_dec (fun _ => ?_) (fun _ => ?_) <;> conv => whnf))
    all_goals (first | (exfalso; omega) | contradiction | skip)
    exact retDoR (by rw [hw]) rfl rfl rfl
  · by_cases e3 : (ns.getD q default).op = 3
    · rw [if_neg (by omega), if_pos (by omega)] at hn
      obtain rfl := (Option.some.inj hn).symm
      have hw : IntKind.i64.wrap (5 - (ns.getD q default).op) = 2 := by rw [e3]; rfl
      conv => whnf
      repeat' (first
        | ((first | refine plan_in (id := 8) [0, 1, 2, 3, 4, 5, 6, 7, 8] (by kernel_rfl) (by kernel_rfl) ?_ | refine plan_in (id := 13) [0, 1, 2, 3, 4, 5, 6, 7, 8] (by kernel_rfl) (by kernel_rfl) ?_ | refine plan_in (id := 16) [0, 1, 2, 3, 4, 5, 6, 7, 8, 9, 10] (by kernel_rfl) (by kernel_rfl) ?_ | refine plan_in (id := 17) [0, 1, 2, 3, 4, 5, 6, 7, 8, 9, 10, 11, 12, 13] (by kernel_rfl) (by kernel_rfl) ?_ | refine plan_in (id := 19) [0, 1, 2, 3, 4, 5, 6, 7, 8, 9, 10, 11, 12, 13, 14, 15, 16, 17, 18, 19, 20, 21] (by kernel_rfl) (by kernel_rfl) ?_ | refine plan_in (id := 24) [0, 1, 2, 3, 4, 5, 6, 7, 8, 9, 10, 11, 12, 13, 14, 15, 16, 17, 18, 19, 20, 21, 22, 23, 24, 25, 26, 27, 28] (by kernel_rfl) (by kernel_rfl) ?_ | refine aIf_t ?_ | refine aIf_f ?_ | refine aGet_in rfl ?_ | refine And.intro (by omega) ?_ | refine load_same ?_ | refine And.intro rfl (And.intro (List.cons_ne_nil _ _) ?_) | refine And.intro (Nat.le_of_ble_eq_true rfl) ?_ | refine callG_t ?_ | refine append_same ?_ | refine get_nd_n (by omega) rfl ?_ | refine get_nd (by omega) rfl ?_ | refine part_nd (by omega) ?_ | refine And.intro (pureL_ii _ _) ?_ | refine And.intro (pureL_nd _ _) ?_ | refine sShapesOf_call (by assumption) ?_ | refine takeN_in ?_ | refine set_force ?_ | refine And.intro (by kernel_rfl) ?_); conv => whnf) | (refine aIf_dec (fun _ => ?_) (fun _ => ?_) <;> conv => whnf))
      all_goals (first | (exfalso; omega) | contradiction | skip)
      exact retDoR (by rw [hw]) rfl rfl rfl
    · have e4 : (ns.getD q default).op = 4 := by omega
      rw [if_neg (by omega), if_neg (by omega), if_pos (by omega)] at hn
      obtain rfl := (Option.some.inj hn).symm
      conv => whnf
      repeat' (first
        | ((first | refine plan_in (id := 8) [0, 1, 2, 3, 4, 5, 6, 7, 8] (by kernel_rfl) (by kernel_rfl) ?_ | refine plan_in (id := 13) [0, 1, 2, 3, 4, 5, 6, 7, 8] (by kernel_rfl) (by kernel_rfl) ?_ | refine plan_in (id := 16) [0, 1, 2, 3, 4, 5, 6, 7, 8, 9, 10] (by kernel_rfl) (by kernel_rfl) ?_ | refine plan_in (id := 17) [0, 1, 2, 3, 4, 5, 6, 7, 8, 9, 10, 11, 12, 13] (by kernel_rfl) (by kernel_rfl) ?_ | refine plan_in (id := 19) [0, 1, 2, 3, 4, 5, 6, 7, 8, 9, 10, 11, 12, 13, 14, 15, 16, 17, 18, 19, 20, 21] (by kernel_rfl) (by kernel_rfl) ?_ | refine plan_in (id := 24) [0, 1, 2, 3, 4, 5, 6, 7, 8, 9, 10, 11, 12, 13, 14, 15, 16, 17, 18, 19, 20, 21, 22, 23, 24, 25, 26, 27, 28] (by kernel_rfl) (by kernel_rfl) ?_ | refine aIf_t ?_ | refine aIf_f ?_ | refine aGet_in rfl ?_ | refine And.intro (by omega) ?_ | refine load_same ?_ | refine And.intro rfl (And.intro (List.cons_ne_nil _ _) ?_) | refine And.intro (Nat.le_of_ble_eq_true rfl) ?_ | refine callG_t ?_ | refine append_same ?_ | refine get_nd_n (by omega) rfl ?_ | refine get_nd (by omega) rfl ?_ | refine part_nd (by omega) ?_ | refine And.intro (pureL_ii _ _) ?_ | refine And.intro (pureL_nd _ _) ?_ | refine sShapesOf_call (by assumption) ?_ | refine takeN_in ?_ | refine set_force ?_ | refine And.intro (by kernel_rfl) ?_); conv => whnf) | (refine aIf_dec (fun _ => ?_) (fun _ => ?_) <;> conv => whnf))
      all_goals (first | (exfalso; omega) | contradiction | skip)
      exact retDoR rfl rfl rfl rfl
end Go.Proofs.YtpbenelmklggcaaGreat
namespace Go.Proofs.YtpbenelmklggcaaGreat
set_option maxRecDepth 20000
open Go.RowKit Go.Am
set_option linter.unusedSimpArgs false
attribute [local irreducible] aPlan aGet aIf aLoop aCall RetB NextB CallB CallG aCut aSet aAppend
set_option maxHeartbeats 16000000 in
theorem l6Do_6 : Sound Tryz.prog 26 (sDo fun ch => ch = 6) := by
  refine sound_of Tryz.func26 rfl (enters_of Tryz.func26 (by kernel_rfl) (by kernel_rfl)) ?_
  rintro ⟨xss, ns, ch, q, x, n⟩ ⟨⟨⟨hE, hM, hq⟩, hx, hn⟩, hc⟩
  have hE : eP ns := hE
  have hM : (shM xss ns).2 = true := hM
  have hq : q < ns.length := hq
  have hx : x = ns.getD q default := hx
  have hn : cX ns (shM xss ns).1 ch q = some n := hn
  have hc : ch = 6 := hc
  subst hc
  subst hx
  have hX := exI_of hM
  have hz := cX_pc hn
  have h2 : 2 ≤ (ns.getD q default).op := by
    have hop := hX.op hq
    have hpc := pcN_cases (ns.getD q default).op
    omega
  obtain ⟨ha, hb⟩ := hX.ab hq h2
  have h12 := hX.n12
  have hsl := hX.len
  have hmax : maxLen = 9223372036854775807 := rfl
  rw [cX_6 hz] at hn
  obtain ⟨h6, rfl⟩ := some_of (show (if _ then some _ else none : Option Nd) = some n from hn)
  obtain ⟨p6, p6'⟩ := hX.c6pre hq h2
  have g10 : (ns.getD q default).op = 10 := h6.1
  have g10a : (ns.getD (ns.getD q default).a.toNat default).op = 10 := h6.2.1
  have l1 := p6 g10
  have l2 : (ns.getD (ns.getD q default).a.toNat default).l.length = 3 := p6' g10a
  have t0 : Int.toNat 0 = 0 := rfl
  have t1 : Int.toNat 1 = 1 := rfl
  have t2 : Int.toNat 2 = 2 := rfl
  have hadd : (ns.getD (ns.getD q default).a.toNat default).l.getD (Int.toNat 1) 0 + (ns.getD q default).l.getD (Int.toNat 1) 0 = (ns.getD q default).l.getD (Int.toNat 1) 0 + (ns.getD (ns.getD q default).a.toNat default).l.getD (Int.toNat 1) 0 := Int.add_comm _ _
  conv => whnf
  repeat' (first
    | ((first | refine plan_in (id := 8) [0, 1, 2, 3, 4, 5, 6, 7, 8] (by kernel_rfl) (by kernel_rfl) ?_ | refine plan_in (id := 13) [0, 1, 2, 3, 4, 5, 6, 7, 8] (by kernel_rfl) (by kernel_rfl) ?_ | refine plan_in (id := 16) [0, 1, 2, 3, 4, 5, 6, 7, 8, 9, 10] (by kernel_rfl) (by kernel_rfl) ?_ | refine plan_in (id := 17) [0, 1, 2, 3, 4, 5, 6, 7, 8, 9, 10, 11, 12, 13] (by kernel_rfl) (by kernel_rfl) ?_ | refine plan_in (id := 19) [0, 1, 2, 3, 4, 5, 6, 7, 8, 9, 10, 11, 12, 13, 14, 15, 16, 17, 18, 19, 20, 21] (by kernel_rfl) (by kernel_rfl) ?_ | refine plan_in (id := 24) [0, 1, 2, 3, 4, 5, 6, 7, 8, 9, 10, 11, 12, 13, 14, 15, 16, 17, 18, 19, 20, 21, 22, 23, 24, 25, 26, 27, 28] (by kernel_rfl) (by kernel_rfl) ?_ | refine aIf_t ?_ | refine aIf_f ?_ | refine get_int (by omega) ?_ | refine aGet_in rfl ?_ | refine And.intro (by omega) ?_ | refine load_same ?_ | refine And.intro rfl (And.intro (List.cons_ne_nil _ _) ?_) | refine And.intro (Nat.le_of_ble_eq_true rfl) ?_ | refine callG_t ?_ | refine append_same ?_ | refine part_nd (by omega) ?_ | refine And.intro (pureL_ii _ _) ?_ | refine And.intro (pureL_nd _ _) ?_ | refine sShapesOf_call (by assumption) ?_ | refine takeN_in ?_ | refine set_force ?_ | refine And.intro (And.intro (by kernel_rfl) (And.intro rfl (Nat.le_of_ble_eq_true rfl))) ?_ | refine And.intro (by kernel_rfl) ?_); conv => whnf))
  all_goals (first | (exfalso; omega) | contradiction | skip)
  exact retDoR (zs := [(ns.getD q default).l.getD (Int.toNat 0) 0, IntKind.i64.wrap ((ns.getD q default).l.getD (Int.toNat 1) 0 + (ns.getD (ns.getD q default).a.toNat default).l.getD (Int.toNat 1) 0), (ns.getD q default).l.getD (Int.toNat 2) 0]) (by rw [← hadd]) rfl rfl rfl
end Go.Proofs.YtpbenelmklggcaaGreat
namespace Go.Proofs.YtpbenelmklggcaaGreat
set_option maxRecDepth 20000
open Go.RowKit Go.Am
set_option linter.unusedSimpArgs false
attribute [local irreducible] aPlan aGet aIf aLoop aCall RetB NextB CallB CallG aCut aSet aAppend
theorem l6Whole_callW {c d e : Nat} {xss ss : List (List Int)} {ns : List Nd} {x : Nd} {w : Int} {env : List AV} {rows : List Row} {ctr low : Nat} {k : AV → St → Prop} (hpre : (0 ≤ x.a ∧ x.a < ns.length) ∧ x.op = 10 ∧ c7Pre x (nA ns x) ss) (hw : (whM x (nA ns x) ss).1 = w) (h : k (.tup [.int .i64 w, .bool (whM x (nA ns x) ss).2]) ⟨env, rows, ctr + 1, low⟩) :
    CallB Tryz.prog 54 ⟨env, rows, ctr, low⟩ [.agg [.sl c xss.length (xss.map (slI c)), .sl c ns.length (ns.flatMap (ndC c))], .sl d ss.length (ss.map (slI d)), .agg [.int .i64 x.op, .int .i64 x.a, .int .i64 x.b, .sl e x.l.length (x.l.map (.int .i64))]] k := by
  subst hw; exact l6Whole_call hpre h
set_option maxHeartbeats 16000000 in
theorem l6Do_7 : Sound Tryz.prog 26 (sDo fun ch => ch = 7) := by
  refine sound_of Tryz.func26 rfl (enters_of Tryz.func26 (by kernel_rfl) (by kernel_rfl)) ?_
  rintro ⟨xss, ns, ch, q, x, n⟩ ⟨⟨⟨hE, hM, hq⟩, hx, hn⟩, hc⟩
  have hE : eP ns := hE
  have hM : (shM xss ns).2 = true := hM
  have hq : q < ns.length := hq
  have hx : x = ns.getD q default := hx
  have hn : cX ns (shM xss ns).1 ch q = some n := hn
  have hc : ch = 7 := hc
  subst hc
  subst hx
  have hX := exI_of hM
  have hz := cX_pc hn
  have h2 : 2 ≤ (ns.getD q default).op := by
    have hop := hX.op hq
    have hpc := pcN_cases (ns.getD q default).op
    omega
  obtain ⟨ha, hb⟩ := hX.ab hq h2
  have h12 := hX.n12
  have hsl := hX.len
  have hmax : maxLen = 9223372036854775807 := rfl
  rw [cX_7 hz] at hn
  have hn : c7 (ns.getD q default) (ns.getD (ns.getD q default).a.toNat default) (shM xss ns).1 = some n := hn
  have hc7 := hX.c7pre hq h2
  have hi : (c7 (ns.getD q default) (ns.getD (ns.getD q default).a.toNat default) (shM xss ns).1).isSome = true := by rw [hn]; rfl
  have hP : c7P (ns.getD q default) (ns.getD (ns.getD q default).a.toNat default) := by
    refine Classical.byContradiction fun h => ?_
    unfold c7 at hn
    rw [if_neg h] at hn; cases hn
  have h10 : (ns.getD q default).op = 10 := hP.1
  have h11 : (ns.getD (ns.getD q default).a.toNat default).op = 11 := hP.2.1
  have h00 : (ns.getD q default).l.getD (Int.toNat 0) 0 = (ns.getD (ns.getD q default).a.toNat default).l.getD (Int.toNat 0) 0 := hP.2.2
  have hp7 : (0 ≤ (ns.getD q default).a ∧ (ns.getD q default).a < ns.length) ∧ (ns.getD q default).op = 10 ∧ c7Pre (ns.getD q default) (nA ns (ns.getD q default)) (shM xss ns).1 := ⟨by omega, h10, hc7⟩
  obtain ⟨lx, ⟨x0, x1⟩, x2⟩ := hc7.1 h10
  obtain ⟨la, a1, a2, a3⟩ : (ns.getD (ns.getD q default).a.toNat default).l.length = 1 ∧ (0 ≤ (ns.getD (ns.getD q default).a.toNat default).a ∧ (ns.getD (ns.getD q default).a.toNat default).a < (shM xss ns).1.length) ∧ (0 ≤ (ns.getD (ns.getD q default).a.toNat default).l.getD (Int.toNat 0) 0 ∧ (ns.getD (ns.getD q default).a.toNat default).l.getD (Int.toNat 0) 0 < ((shM xss ns).1.getD (ns.getD (ns.getD q default).a.toNat default).a.toNat []).length) ∧ 1 ≤ ((shM xss ns).1.getD (ns.getD (ns.getD q default).a.toNat default).a.toNat []).getD ((ns.getD (ns.getD q default).a.toNat default).l.getD (Int.toNat 0) 0).toNat 0 ∧ ((shM xss ns).1.getD (ns.getD (ns.getD q default).a.toNat default).a.toNat []).getD ((ns.getD (ns.getD q default).a.toNat default).l.getD (Int.toNat 0) 0).toNat 0 ≤ 4 := hc7.2 h11
  rw [← h00] at a2 a3
  have t0 : Int.toNat 0 = 0 := rfl
  have t1 : Int.toNat 1 = 1 := rfl
  have t2 : Int.toNat 2 = 2 := rfl
  have l3e : [(ns.getD q default).l.getD (Int.toNat 0) 0, (ns.getD q default).l.getD (Int.toNat 1) 0, (ns.getD q default).l.getD (Int.toNat 2) 0] = (ns.getD q default).l := by
    match e : (ns.getD q default).l, lx with
    | [_, _, _], _ => rfl
  have hwh : whM (ns.getD q default) (ns.getD (ns.getD q default).a.toNat default) (shM xss ns).1 = (if (ns.getD q default).l.getD (Int.toNat 1) 0 + (ns.getD q default).l.getD (Int.toNat 2) 0 ≤ c7F (ns.getD q default) (ns.getD (ns.getD q default).a.toNat default) (shM xss ns).1 then (0, true) else (1, decide (c7F (ns.getD q default) (ns.getD (ns.getD q default).a.toNat default) (shM xss ns).1 ≤ (ns.getD q default).l.getD (Int.toNat 1) 0))) := if_pos ⟨h11, h00.symm⟩
  unfold c7 at hn
  rw [if_pos hP] at hn
  by_cases g1 : c7F (ns.getD q default) (ns.getD (ns.getD q default).a.toNat default) (shM xss ns).1 ≤ (ns.getD q default).l.getD (Int.toNat 1) 0
  · rw [if_pos g1] at hn
    obtain rfl := (Option.some.inj hn).symm
    rw [if_neg (by omega)] at hwh
    have hw1 : (whM (ns.getD q default) (ns.getD (ns.getD q default).a.toNat default) (shM xss ns).1).1 = 1 := by rw [hwh]
    conv => whnf
    repeat' (first
      | ((first | refine l6Whole_callW hp7 hw1 ?_ | refine plan_in (id := 8) [0, 1, 2, 3, 4, 5, 6, 7, 8] (by kernel_rfl) (by kernel_rfl) ?_ | refine plan_in (id := 13) [0, 1, 2, 3, 4, 5, 6, 7, 8] (by kernel_rfl) (by kernel_rfl) ?_ | refine plan_in (id := 16) [0, 1, 2, 3, 4, 5, 6, 7, 8, 9, 10] (by kernel_rfl) (by kernel_rfl) ?_ | refine plan_in (id := 17) [0, 1, 2, 3, 4, 5, 6, 7, 8, 9, 10, 11, 12, 13] (by kernel_rfl) (by kernel_rfl) ?_ | refine plan_in (id := 19) [0, 1, 2, 3, 4, 5, 6, 7, 8, 9, 10, 11, 12, 13, 14, 15, 16, 17, 18, 19, 20, 21] (by kernel_rfl) (by kernel_rfl) ?_ | refine plan_in (id := 24) [0, 1, 2, 3, 4, 5, 6, 7, 8, 9, 10, 11, 12, 13, 14, 15, 16, 17, 18, 19, 20, 21, 22, 23, 24, 25, 26, 27, 28] (by kernel_rfl) (by kernel_rfl) ?_ | refine aIf_t ?_ | refine aIf_f ?_ | refine get_nat (by omega) ?_ | refine get_int (by omega) ?_ | refine aGet_in rfl ?_ | refine And.intro (by omega) ?_ | refine load_same ?_ | refine And.intro rfl (And.intro (List.cons_ne_nil _ _) ?_) | refine And.intro (Nat.le_of_ble_eq_true rfl) ?_ | refine callG_t ?_ | refine append_same ?_ | refine part_nd (by omega) ?_ | refine And.intro (pureL_ii _ _) ?_ | refine And.intro (pureL_nd _ _) ?_ | refine cut_ii rfl ?_ | refine sShapesOf_call (by assumption) ?_ | refine get_oi (by omega) ?_ | refine get_oi (by omega) ?_ | refine get_oi (by omega) ?_ | refine takeN_in ?_ | refine And.intro (pureL_ints _ _) ?_ | refine set_force ?_ | refine And.intro (And.intro (by kernel_rfl) (And.intro rfl (Nat.le_of_ble_eq_true rfl))) ?_ | refine And.intro (by kernel_rfl) ?_); conv => whnf))
    all_goals (first | (exfalso; omega) | contradiction | skip)
    exact retDoR rfl rfl (by simp only [Nat.mul_one]; rfl) rfl
  · rw [if_neg g1] at hn
    obtain ⟨g2, rfl⟩ := some_of hn
    rw [if_pos g2] at hwh
    have hw1 : (whM (ns.getD q default) (ns.getD (ns.getD q default).a.toNat default) (shM xss ns).1).1 = 0 := by rw [hwh]
    conv => whnf
    repeat' (first
      | ((first | refine l6Whole_callW hp7 hw1 ?_ | refine l6Whole_callW hp7 hw1 ?_ | refine plan_in (id := 8) [0, 1, 2, 3, 4, 5, 6, 7, 8] (by kernel_rfl) (by kernel_rfl) ?_ | refine plan_in (id := 13) [0, 1, 2, 3, 4, 5, 6, 7, 8] (by kernel_rfl) (by kernel_rfl) ?_ | refine plan_in (id := 16) [0, 1, 2, 3, 4, 5, 6, 7, 8, 9, 10] (by kernel_rfl) (by kernel_rfl) ?_ | refine plan_in (id := 17) [0, 1, 2, 3, 4, 5, 6, 7, 8, 9, 10, 11, 12, 13] (by kernel_rfl) (by kernel_rfl) ?_ | refine plan_in (id := 19) [0, 1, 2, 3, 4, 5, 6, 7, 8, 9, 10, 11, 12, 13, 14, 15, 16, 17, 18, 19, 20, 21] (by kernel_rfl) (by kernel_rfl) ?_ | refine plan_in (id := 24) [0, 1, 2, 3, 4, 5, 6, 7, 8, 9, 10, 11, 12, 13, 14, 15, 16, 17, 18, 19, 20, 21, 22, 23, 24, 25, 26, 27, 28] (by kernel_rfl) (by kernel_rfl) ?_ | refine aIf_t ?_ | refine aIf_f ?_ | refine aGet_in rfl ?_ | refine And.intro (by omega) ?_ | refine load_same ?_ | refine And.intro rfl (And.intro (List.cons_ne_nil _ _) ?_) | refine And.intro (Nat.le_of_ble_eq_true rfl) ?_ | refine callG_t ?_ | refine append_same ?_ | refine part_nd (by omega) ?_ | refine And.intro (pureL_ii _ _) ?_ | refine And.intro (pureL_nd _ _) ?_ | refine cut_ii rfl ?_ | refine sShapesOf_call (by assumption) ?_ | refine takeN_in ?_ | refine And.intro (pureL_ints _ _) ?_ | refine set_force ?_ | refine And.intro (by kernel_rfl) ?_); conv => whnf))
    all_goals (first | (exfalso; omega) | contradiction | skip)
    exact retDoT (by rw [l3e]) rfl rfl
end Go.Proofs.YtpbenelmklggcaaGreat
namespace Go.Proofs.YtpbenelmklggcaaGreat
set_option maxRecDepth 20000
open Go.RowKit Go.Am
set_option linter.unusedSimpArgs false
attribute [local irreducible] aPlan aGet aIf aLoop aCall RetB NextB CallB CallG aCut aSet aAppend
set_option maxHeartbeats 16000000 in
theorem l6Do_8 : Sound Tryz.prog 26 (sDo fun ch => ch = 8) := by
  refine sound_of Tryz.func26 rfl (enters_of Tryz.func26 (by kernel_rfl) (by kernel_rfl)) ?_
  rintro ⟨xss, ns, ch, q, x, n⟩ ⟨⟨⟨hE, hM, hq⟩, hx, hn⟩, hc⟩
  have hE : eP ns := hE
  have hM : (shM xss ns).2 = true := hM
  have hq : q < ns.length := hq
  have hx : x = ns.getD q default := hx
  have hn : cX ns (shM xss ns).1 ch q = some n := hn
  have hc : ch = 8 := hc
  subst hc
  subst hx
  have hX := exI_of hM
  have hz := cX_pc hn
  have h2 : 2 ≤ (ns.getD q default).op := by
    have hop := hX.op hq
    have hpc := pcN_cases (ns.getD q default).op
    omega
  obtain ⟨ha, hb⟩ := hX.ab hq h2
  have h12 := hX.n12
  have hsl := hX.len
  have hmax : maxLen = 9223372036854775807 := rfl
  rw [cX_8 hz] at hn
  obtain ⟨h8, rfl⟩ := some_of (show (if _ then some _ else none : Option Nd) = some n from hn)
  conv => whnf
  repeat' (first
    | ((first | refine plan_in (id := 8) [0, 1, 2, 3, 4, 5, 6, 7, 8] (by kernel_rfl) (by kernel_rfl) ?_ | refine plan_in (id := 13) [0, 1, 2, 3, 4, 5, 6, 7, 8] (by kernel_rfl) (by kernel_rfl) ?_ | refine plan_in (id := 16) [0, 1, 2, 3, 4, 5, 6, 7, 8, 9, 10] (by kernel_rfl) (by kernel_rfl) ?_ | refine plan_in (id := 17) [0, 1, 2, 3, 4, 5, 6, 7, 8, 9, 10, 11, 12, 13] (by kernel_rfl) (by kernel_rfl) ?_ | refine plan_in (id := 19) [0, 1, 2, 3, 4, 5, 6, 7, 8, 9, 10, 11, 12, 13, 14, 15, 16, 17, 18, 19, 20, 21] (by kernel_rfl) (by kernel_rfl) ?_ | refine plan_in (id := 24) [0, 1, 2, 3, 4, 5, 6, 7, 8, 9, 10, 11, 12, 13, 14, 15, 16, 17, 18, 19, 20, 21, 22, 23, 24, 25, 26, 27, 28] (by kernel_rfl) (by kernel_rfl) ?_ | refine aIf_f ?_ | refine aGet_in rfl ?_ | refine And.intro (by omega) ?_ | refine load_same ?_ | refine And.intro rfl (And.intro (List.cons_ne_nil _ _) ?_) | refine And.intro (Nat.le_of_ble_eq_true rfl) ?_ | refine callG_t ?_ | refine append_same ?_ | refine part_nd (by omega) ?_ | refine And.intro (pureL_ii _ _) ?_ | refine And.intro (pureL_nd _ _) ?_ | refine sShapesOf_call (by assumption) ?_ | refine takeN_in ?_ | refine set_force ?_ | refine And.intro (by kernel_rfl) ?_); conv => whnf))
  all_goals (first | (exfalso; omega) | contradiction | skip)
  exact retDoR rfl rfl rfl rfl
end Go.Proofs.YtpbenelmklggcaaGreat
namespace Go.Proofs.YtpbenelmklggcaaGreat
set_option maxRecDepth 20000
open Go.RowKit Go.Am
set_option linter.unusedSimpArgs false
attribute [local irreducible] aPlan aGet aIf aLoop aCall RetB NextB CallB CallG aCut aSet aAppend
theorem l6Do_sound : Sound Tryz.prog 26 (sDo fun ch => 1 ≤ ch ∧ ch ≤ 8) := by
  refine ⟨l6Do_1.1, ?_⟩
  rintro ⟨xss, ns, ch, q, x, n⟩ ⟨h, hc⟩
  have hc : 1 ≤ ch ∧ ch ≤ 8 := hc
  rcases (show ch = 1 ∨ ch = 2 ∨ ch = 3 ∨ ch = 4 ∨ ch = 5 ∨ ch = 6 ∨ ch = 7 ∨ ch = 8 by omega) with e | e | e | e | e | e | e | e
  · exact l6Do_1.2 (xss, ns, ch, q, x, n) ⟨h, e⟩
  · exact l6Do_2.2 (xss, ns, ch, q, x, n) ⟨h, e⟩
  · exact l6Do_3.2 (xss, ns, ch, q, x, n) ⟨h, e⟩
  · exact l6Do_4.2 (xss, ns, ch, q, x, n) ⟨h, e⟩
  · exact l6Do_5.2 (xss, ns, ch, q, x, n) ⟨h, e⟩
  · exact l6Do_6.2 (xss, ns, ch, q, x, n) ⟨h, e⟩
  · exact l6Do_7.2 (xss, ns, ch, q, x, n) ⟨h, e⟩
  · exact l6Do_8.2 (xss, ns, ch, q, x, n) ⟨h, e⟩
theorem l6Do_call {q : Nat} {ch : Int} {xss : List (List Int)} {ns : List Nd} {x n : Nd} {env : List AV} {rows : List Row} {ctr low : Nat} {k : AV → St → Prop} (hE : eP ns) (hM : (shM xss ns).2 = true) (hq : q < ns.length) (hx : x = ns.getD q default) (hn : cX ns (shM xss ns).1 ch q = some n) (hc : 1 ≤ ch ∧ ch ≤ 8)
    (h1 : k (.agg [.int .i64 n.op, .int .i64 n.a, .int .i64 n.b, .sl 1 n.l.length (n.l.map (.int .i64))]) ⟨env, rows, ctr + 1, low⟩) (h2 : k (.agg [.int .i64 n.op, .int .i64 n.a, .int .i64 n.b, .ref rows.length ctr 0 n.l.length]) ⟨env, rows ++ [⟨ctr, 3, 1, n.l.map (.int .i64)⟩], ctr + 1, low⟩) :
    CallB Tryz.prog 26 ⟨env, rows, ctr, low⟩ [.agg [.sl 1 xss.length (xss.map (slI 1)), .sl 1 ns.length (ns.flatMap (ndC 1))], .int .i64 ch, .agg [.int .i64 x.op, .int .i64 x.a, .int .i64 x.b, .sl 1 x.l.length (x.l.map (.int .i64))]] k := callB_in (sp := sDo fun ch => 1 ≤ ch ∧ ch ≤ 8) l6Do_sound rfl (xss, ns, ch, q, x, n) rfl ⟨⟨⟨hE, hM, hq⟩, hx, hn⟩, hc⟩ (by
  rintro r news ⟨-, ⟨rfl, rfl⟩ | ⟨rfl, rfl⟩⟩
  · simpa [AV.back, Go.Am.backL, St.news, slI] using h1
  · rw [news_prot (protL_ints _ _)]
    simpa [AV.back, Go.Am.backL, backT, backV] using h2)
end Go.Proofs.YtpbenelmklggcaaGreat
namespace Go.Proofs.YtpbenelmklggcaaGreat
set_option maxRecDepth 20000
open Go.RowKit Go.Am
set_option linter.unusedSimpArgs false
attribute [local irreducible] aPlan aGet aIf aLoop aCall RetB NextB CallB CallG aCut aSet aAppend
def wnE (xss : List (List Int)) (ns : List Nd) (g : Nat) : Ex := if drP xss ns g then (xss, dropN ns g) else ([], [])
theorem ExI.ins3 {xss ss : List (List Int)} {ns : List Nd} (h : ExI xss ns ss) : xss.length ≤ 3 ∧ ∀ k, k < xss.length → (xss.getD k []).length ≤ 3 := ⟨h.ins.1, fun k hk => ok_len3 (h.ins.2 k hk)⟩
def sWithout : CSpec := fnEB (ι := Nat × List (List Int) × List Nd × Nat) 3 46 48 (fun | (c, xss, ns, g) => [.agg [.sl c xss.length (xss.map (slI c)), .sl c ns.length (ns.flatMap (ndC c))], .int .i64 g]) (fun | (_, xss, ns, g) => eP ns ∧ (shM xss ns).2 = true ∧ g < ns.length) (fun | (_, xss, ns, g) => wnE xss ns g) (fun | (_, xss, ns, g) => decide (drP xss ns g))
set_option maxHeartbeats 8000000 in
theorem withoutNode_sound : Sound Tryz.prog 31 sWithout := by
  refine sound_of Tryz.func31 rfl (enters_of Tryz.func31 (by kernel_rfl) (by kernel_rfl)) ?_
  rintro ⟨c, xss, ns, g⟩ hpre
  obtain ⟨hE, hM, hg⟩ : eP ns ∧ (shM xss ns).2 = true ∧ g < ns.length := hpre
  have hX := exI_of hM
  have h12 := hX.n12
  have hul : (usL xss ns).length = ns.length := by unfold usL; rw [if_pos hM, usTo_length]
  have hmax : maxLen = 9223372036854775807 := rfl
  by_cases hd : drP xss ns g
  · have hd' : (usL xss ns).getD g 0 = 0 ∧ g + 1 < (usL xss ns).length := hd
    obtain ⟨hi3, hik⟩ := hX.ins3
    have hcl : xss.length ≤ 1000 ∧ ∀ k, k < xss.length → (xss.getD k []).length ≤ 1048576 := ⟨by omega, fun k hk => by have := hik k hk; omega⟩
    have hW : wnE xss ns g = (xss, dropN ns g) := if_pos hd
    conv => whnf
    repeat' (first
      | ((first | refine plan_in (id := 8) [0, 1, 2, 3, 4, 5, 6, 7, 8] (by kernel_rfl) (by kernel_rfl) ?_ | refine fun (_ : _ ≤ maxLen) => ?_ | refine aGet_in rfl ?_ | refine And.intro (by omega) ?_ | refine load_same ?_ | refine And.intro rfl (And.intro (List.cons_ne_nil _ _) ?_) | refine And.intro (Nat.le_of_ble_eq_true rfl) ?_ | refine callG_t ?_ | refine append_same ?_ | refine And.intro (pureL_ii _ _) ?_ | refine And.intro (pureL_nd _ _) ?_); conv => whnf) | (refine iUsesOf_call (by first | omega | assumption | (refine ⟨?_, ?_⟩ <;> first | assumption | omega) | (refine ⟨?_, ?_, ?_⟩ <;> first | assumption | omega)) ?_; conv => whnf) | (refine copyLists_call (by assumption) ?_; conv => whnf) | (refine dropOk_call (by first | omega | assumption | (refine ⟨?_, ?_⟩ <;> first | assumption | omega) | (refine ⟨?_, ?_, ?_⟩ <;> first | assumption | omega)) ?_; conv => whnf) | ((first | refine takeN_in ?_ | refine cut_ints ?_ | refine set_force ?_ | refine And.intro (by kernel_rfl) ?_); conv => whnf) | refine aIf_not ?_
      | (refine aIf_dec (fun _ => ?_) (fun _ => ?_) <;> conv => whnf))
    all_goals (first | (exfalso; omega) | contradiction | skip)
    refine loop_ut (ι := Nat) [false, true, false, false, true, false, true, false, false, false, false, false, false, false, false, false, false, false, false, false, true, true, true, false, false, false, false, false, false, false, false, false, false, false, false, false, false, false, false, false] (fun k => [(22, .int .i64 k)]) (fun k => [(9, [.ref 5 7 0 xss.length, .ref 6 8 0 (dTo ns g k).length]), (6, (dTo ns g k).flatMap (ndO 3))]) (fun k => k ≤ ns.length) (fun k => ns.length - k) (0) (Nat.zero_le _) ?_ ?_
    · conv => whnf
      refine St.le.to ?_
      conv => whnf
      repeat' (first
        | exact trivial | exact rfl
        | exact Or.inl (And.intro rfl rfl) | exact le_ints rfl
        | exact pureL_ii _ _ | exact pureL_nd _ _
        | exact Or.inl (And.intro (pureL_oi _ _) rfl) | refine Or.inr ?_
        | refine And.intro ?_ ?_ | exact Nat.le_of_ble_eq_true rfl)
    · rintro k hk
      have hk : k ≤ ns.length := hk
      have hdl := dTo_le ns g k
      by_cases hlt : k < ns.length
      · have h3 := hX.l3 hlt
        by_cases hkg : (k : Int) = g
        · have hkg' : k = g := by omega
          have hn := dTo_g (ns := ns) hkg'
          conv => whnf
          repeat' (first
            | ((first | refine plan_in (id := 8) [0, 1, 2, 3, 4, 5, 6, 7, 8] (by kernel_rfl) (by kernel_rfl) ?_ | refine aGet_in rfl ?_ | refine And.intro (by omega) ?_ | refine load_same ?_ | refine And.intro (Nat.le_of_ble_eq_true rfl) ?_ | refine append_same ?_ | refine part_nd_n (by omega) ?_ | refine closedUp_call (by first | assumption | omega) ?_ | refine takeN_in ?_ | refine set_force ?_ | refine And.intro (by kernel_rfl) ?_); conv => whnf) | refine aIf_not ?_
            | (refine aIf_dec (fun _ => ?_) (fun _ => ?_) <;> conv => whnf))
          all_goals (first | (exfalso; omega) | contradiction | skip)
          refine next_ut (k + 1) (show ns.length - (k + 1) < ns.length - k by omega) (by exact (by omega : k + 1 ≤ ns.length)) ?_
          rw [hn]
          conv => whnf
          refine St.le.to ?_
          conv => whnf
          repeat' (first
            | exact trivial | exact rfl
            | exact Or.inl (And.intro rfl rfl) | exact le_ints rfl
            | exact pureL_ii _ _ | exact pureL_nd _ _
            | exact Or.inl (And.intro (pureL_oi _ _) rfl) | exact Or.inl (And.intro (pureL_ond _ _) rfl)
            | refine Or.inr ?_ | refine And.intro ?_ ?_
            | exact Nat.le_of_ble_eq_true rfl | exact int_eq (by rw [IntWalk.i64_in _ (by omega)] <;> omega))
        · have hn := dTo_n (ns := ns) (show ¬ k = g by omega)
          have hnl : (dTo ns g (k + 1)).length = (dTo ns g k).length + 1 := by rw [hn, List.length_append, List.length_singleton]
          conv => whnf
          repeat' (first
            | ((first | refine plan_in (id := 8) [0, 1, 2, 3, 4, 5, 6, 7, 8] (by kernel_rfl) (by kernel_rfl) ?_ | refine aGet_in rfl ?_ | refine And.intro (by omega) ?_ | refine load_same ?_ | refine And.intro (Nat.le_of_ble_eq_true rfl) ?_ | refine append_same ?_ | refine part_nd_n (by omega) ?_ | refine closedUp_call (by first | assumption | omega) ?_ | refine takeN_in ?_ | refine And.intro (pureL_ints _ _) ?_ | refine set_force ?_ | refine And.intro (And.intro (by kernel_rfl) (And.intro rfl (Nat.le_of_ble_eq_true rfl))) ?_ | refine And.intro (by kernel_rfl) ?_); conv => whnf) | refine aIf_not ?_
            | (refine aIf_dec (fun _ => ?_) (fun _ => ?_) <;> conv => whnf))
          all_goals (first | (exfalso; omega) | contradiction | skip)
          refine append_nd rfl (flat_len (ndO_length _) _) rfl rfl (by omega) (Nat.zero_le _) ?_
          conv => whnf
          repeat' (first
            | ((first | refine plan_in (id := 8) [0, 1, 2, 3, 4, 5, 6, 7, 8] (by kernel_rfl) (by kernel_rfl) ?_ | refine And.intro (Nat.le_of_ble_eq_true rfl) ?_ | refine append_same ?_ | refine set_force ?_ | refine And.intro (by kernel_rfl) ?_); conv => whnf))
          refine next_ut (k + 1) (show ns.length - (k + 1) < ns.length - k by omega) (by exact (by omega : k + 1 ≤ ns.length)) ?_
          rw [hnl, hn]
          conv => whnf
          refine to_close 6 ((dTo ns g k).length * 4 + 3) 12 _ _ 1 3 _ _ rfl (get_nodeN rfl) rfl (by decide) (Nat.zero_le _) (by decide) (by simp) ?_
          refine St.le.to ?_
          conv => whnf
          repeat' (first | exact le_nodeN (n := clo g (ns.getD k default)) rfl rfl | refine And.intro ?_ ?_)
          repeat' (first
            | exact trivial | exact rfl
            | exact Or.inl (And.intro rfl rfl) | exact le_ints rfl
            | exact pureL_ii _ _ | exact pureL_nd _ _
            | exact Or.inl (And.intro (pureL_oi _ _) rfl) | refine Or.inr ?_
            | refine And.intro ?_ ?_ | exact Nat.le_of_ble_eq_true rfl
            | exact int_eq (by rw [IntWalk.i64_in _ (by omega)] <;> omega))
      · have he : k = ns.length := by omega
        subst he
        conv => whnf
        repeat' (first
          | ((first | refine plan_in (id := 8) [0, 1, 2, 3, 4, 5, 6, 7, 8] (by kernel_rfl) (by kernel_rfl) ?_ | refine aGet_in rfl ?_ | refine And.intro (by omega) ?_ | refine load_same ?_ | refine And.intro (Nat.le_of_ble_eq_true rfl) ?_ | refine append_same ?_ | refine part_nd_n (by omega) ?_ | refine closedUp_call (by first | assumption | omega) ?_ | refine takeN_in ?_ | refine set_force ?_ | refine And.intro (by kernel_rfl) ?_); conv => whnf) | refine aIf_not ?_
          | (refine aIf_dec (fun _ => ?_) (fun _ => ?_) <;> conv => whnf))
        all_goals (first | (exfalso; omega) | contradiction | skip)
        exact retEB hW (decide_eq_true hd).symm (by decide) rfl rfl rfl rfl rfl rfl
  · have hd' : ¬ ((usL xss ns).getD g 0 = 0 ∧ g + 1 < (usL xss ns).length) := hd
    have hW : wnE xss ns g = ([], []) := if_neg hd
    conv => whnf
    repeat' (first
      | ((first | refine plan_in (id := 8) [0, 1, 2, 3, 4, 5, 6, 7, 8] (by kernel_rfl) (by kernel_rfl) ?_ | refine aGet_in rfl ?_ | refine And.intro (by omega) ?_ | refine load_same ?_ | refine And.intro rfl (And.intro (List.cons_ne_nil _ _) ?_) | refine And.intro (Nat.le_of_ble_eq_true rfl) ?_ | refine callG_t ?_ | refine append_same ?_ | refine And.intro (pureL_ii _ _) ?_ | refine And.intro (pureL_nd _ _) ?_); conv => whnf) | (refine iUsesOf_call (by first | omega | assumption | (refine ⟨?_, ?_⟩ <;> first | assumption | omega) | (refine ⟨?_, ?_, ?_⟩ <;> first | assumption | omega)) ?_; conv => whnf) | (refine dropOk_call (by first | omega | assumption | (refine ⟨?_, ?_⟩ <;> first | assumption | omega) | (refine ⟨?_, ?_, ?_⟩ <;> first | assumption | omega)) ?_; conv => whnf) | ((first | refine takeN_in ?_ | refine cut_ints ?_ | refine set_force ?_ | refine And.intro (by kernel_rfl) ?_); conv => whnf) | refine aIf_not ?_
      | (refine aIf_dec (fun _ => ?_) (fun _ => ?_) <;> conv => whnf))
    all_goals (first | (exfalso; omega) | contradiction | skip)
    all_goals exact retEB hW (decide_eq_false hd).symm (by decide) rfl rfl rfl rfl rfl rfl
theorem withoutNode_call {c g : Nat} {xss : List (List Int)} {ns : List Nd} {env : List AV} {rows : List Row} {ctr low : Nat} {k : AV → St → Prop} (hE : eP ns) (hM : (shM xss ns).2 = true) (hg : g < ns.length)
    (h : k (.tup [.agg [.ref rows.length ctr 0 (wnE xss ns g).1.length, .ref (rows.length + 1) ctr 0 (wnE xss ns g).2.length], .bool (decide (drP xss ns g))]) ⟨env, rows ++ [⟨ctr, 46, 1, (wnE xss ns g).1.map (ownI 3)⟩, ⟨ctr, 48, 4, (wnE xss ns g).2.flatMap (ndO 3)⟩], ctr + 1, low⟩) :
    CallB Tryz.prog 31 ⟨env, rows, ctr, low⟩ [.agg [.sl c xss.length (xss.map (slI c)), .sl c ns.length (ns.flatMap (ndC c))], .int .i64 g] k := callEB_in withoutNode_sound (c, xss, ns, g) ⟨hE, hM, hg⟩ h
end Go.Proofs.YtpbenelmklggcaaGreat
