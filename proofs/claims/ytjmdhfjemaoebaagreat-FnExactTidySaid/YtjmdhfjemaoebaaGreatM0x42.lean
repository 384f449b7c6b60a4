import Derived.Test.YtjmdhfjemaoebaaGreatM0x41
namespace Go.Proofs.YtjmdhfjemaoebaaGreat
set_option maxRecDepth 20000
open Go.RowKit Go.Am
set_option linter.unusedSimpArgs false
attribute [local irreducible] aPlan aGet aIf aLoop aCall RetB NextB CallB CallG aCut aSet aAppend
set_option maxHeartbeats 16000000 in
theorem l6Do_1 : Sound Tryz.prog 82 (sDo fun ch => ch = 1) := by
  refine sound_of Tryz.func82 rfl (enters_of Tryz.func82 (by kernel_rfl) (by kernel_rfl)) ?_
  rintro ⟨xss, ns, ch, q, x, n⟩ ⟨⟨⟨hE, hM, hq⟩, hx, hn⟩, hc⟩
  have hE : eP ns := hE
  have hM : (shM xss ns).2 = true := hM
  have hq : q < ns.length := hq
  have hx : x = ns.getD q default := hx
  have hn : cX ns (shM xss ns).1 ch q = some n := hn
  have hc : ch = 1 := hc
  subst hc
  subst hx
  have hX := exI_of hM
  have hz := cX_pc hn
  have h2 : 2 ≤ (ns.getD q default).op := by
    have hop := hX.op hq
    have hpc := pcN_cases (ns.getD q default).op
    omega
  obtain ⟨ha, hb⟩ := hX.ab hq h2
  have h12 := hX.n12
  have hsl := hX.len
  have hmax : maxLen = 9223372036854775807 := rfl
  rw [cX_1 hz] at hn
  obtain ⟨-, rfl⟩ := some_n (show (if _ then none else some _ : Option Nd) = some n from hn)
  have p1 : (0 ≤ (ns.getD q default).a ∧ (ns.getD q default).a < ns.length) ∧ ns.length ≤ 1048576 := by omega
  have p2 : (0 ≤ (ns.getD q default).b ∧ (ns.getD q default).b < ns.length) ∧ ns.length ≤ 1048576 := by omega
  by_cases t2 : twoP3 (ns.getD q default).op
  · conv => whnf
    repeat' (first
      | ((first | refine plan_in (id := 8) [0, 1, 2, 3, 4, 5, 6, 7, 8] (by kernel_rfl) (by kernel_rfl) ?_ | refine plan_in (id := 13) [0, 1, 2, 3, 4, 5, 6, 7, 8] (by kernel_rfl) (by kernel_rfl) ?_ | refine plan_in (id := 16) [0, 1, 2, 3, 4, 5, 6, 7, 8, 9, 10] (by kernel_rfl) (by kernel_rfl) ?_ | refine plan_in (id := 17) [0, 1, 2, 3, 4, 5, 6, 7, 8, 9, 10, 11, 12, 13] (by kernel_rfl) (by kernel_rfl) ?_ | refine plan_in (id := 19) [0, 1, 2, 3, 4, 5, 6, 7, 8, 9, 10, 11, 12, 13, 14, 15, 16, 17, 18, 19, 20, 21] (by kernel_rfl) (by kernel_rfl) ?_ | refine plan_in (id := 24) [0, 1, 2, 3, 4, 5, 6, 7, 8, 9, 10, 11, 12, 13, 14, 15, 16, 17, 18, 19, 20, 21, 22, 23, 24, 25, 26, 27, 28] (by kernel_rfl) (by kernel_rfl) ?_ | refine aIf_t ?_ | refine aGet_in rfl ?_ | refine And.intro (by omega) ?_ | refine load_same ?_ | refine And.intro rfl (And.intro (List.cons_ne_nil _ _) ?_) | refine And.intro (Nat.le_of_ble_eq_true rfl) ?_ | refine callG_t ?_ | refine append_same ?_ | refine part_nd (by omega) ?_ | refine And.intro (pureL_ii _ _) ?_ | refine And.intro (pureL_nd _ _) ?_ | refine l3Two_call trivial ?_ | refine l6First_call (by omega) ?_ | refine takeN_in ?_ | refine set_force ?_ | refine And.intro (by kernel_rfl) ?_); conv => whnf) | (refine aIf_dec (fun _ => ?_) (fun _ => ?_) <;> conv => whnf))
    all_goals (first | (exfalso; omega) | contradiction | skip)
    exact retDoT rfl rfl rfl
  · have hop := hX.op hq
    have hb0 := hX.b0 hq (by unfold twoP3 at t2; omega)
    have eb : (fsN ns (ns.getD q default).b.toNat : Int) = (ns.getD q default).b := by rw [hb0]; rfl
    conv => whnf
    repeat' (first
      | ((first | refine plan_in (id := 8) [0, 1, 2, 3, 4, 5, 6, 7, 8] (by kernel_rfl) (by kernel_rfl) ?_ | refine plan_in (id := 13) [0, 1, 2, 3, 4, 5, 6, 7, 8] (by kernel_rfl) (by kernel_rfl) ?_ | refine plan_in (id := 16) [0, 1, 2, 3, 4, 5, 6, 7, 8, 9, 10] (by kernel_rfl) (by kernel_rfl) ?_ | refine plan_in (id := 17) [0, 1, 2, 3, 4, 5, 6, 7, 8, 9, 10, 11, 12, 13] (by kernel_rfl) (by kernel_rfl) ?_ | refine plan_in (id := 19) [0, 1, 2, 3, 4, 5, 6, 7, 8, 9, 10, 11, 12, 13, 14, 15, 16, 17, 18, 19, 20, 21] (by kernel_rfl) (by kernel_rfl) ?_ | refine plan_in (id := 24) [0, 1, 2, 3, 4, 5, 6, 7, 8, 9, 10, 11, 12, 13, 14, 15, 16, 17, 18, 19, 20, 21, 22, 23, 24, 25, 26, 27, 28] (by kernel_rfl) (by kernel_rfl) ?_ | refine aIf_t ?_ | refine aGet_in rfl ?_ | refine And.intro (by omega) ?_ | refine load_same ?_ | refine And.intro rfl (And.intro (List.cons_ne_nil _ _) ?_) | refine And.intro (Nat.le_of_ble_eq_true rfl) ?_ | refine callG_t ?_ | refine append_same ?_ | refine part_nd (by omega) ?_ | refine And.intro (pureL_ii _ _) ?_ | refine And.intro (pureL_nd _ _) ?_ | refine l3Two_call trivial ?_ | refine l6First_call (by omega) ?_ | refine takeN_in ?_ | refine set_force ?_ | refine And.intro (by kernel_rfl) ?_); conv => whnf) | (refine aIf_dec (fun _ => ?_) (fun _ => ?_) <;> conv => whnf))
    all_goals (first | (exfalso; omega) | contradiction | skip)
    exact retDoT (by rw [eb]) rfl rfl
end Go.Proofs.YtjmdhfjemaoebaaGreat
namespace Go.Proofs.YtjmdhfjemaoebaaGreat
set_option maxRecDepth 20000
open Go.RowKit Go.Am
set_option linter.unusedSimpArgs false
attribute [local irreducible] aPlan aGet aIf aLoop aCall RetB NextB CallB CallG aCut aSet aAppend
set_option maxHeartbeats 16000000 in
theorem l6Do_2 : Sound Tryz.prog 82 (sDo fun ch => ch = 2) := by
  refine sound_of Tryz.func82 rfl (enters_of Tryz.func82 (by kernel_rfl) (by kernel_rfl)) ?_
  rintro ⟨xss, ns, ch, q, x, n⟩ ⟨⟨⟨hE, hM, hq⟩, hx, hn⟩, hc⟩
  have hE : eP ns := hE
  have hM : (shM xss ns).2 = true := hM
  have hq : q < ns.length := hq
  have hx : x = ns.getD q default := hx
  have hn : cX ns (shM xss ns).1 ch q = some n := hn
  have hc : ch = 2 := hc
  subst hc
  subst hx
  have hX := exI_of hM
  have hz := cX_pc hn
  have h2 : 2 ≤ (ns.getD q default).op := by
    have hop := hX.op hq
    have hpc := pcN_cases (ns.getD q default).op
    omega
  obtain ⟨ha, hb⟩ := hX.ab hq h2
  have h12 := hX.n12
  have hsl := hX.len
  have hmax : maxLen = 9223372036854775807 := rfl
  rw [cX_2 hz] at hn
  obtain ⟨h8, rfl⟩ := some_of (show (if _ then some _ else none : Option Nd) = some n from hn)
  have hp2 := (hX.c2pre hq h2 h8).2
  have hl3 := hX.l3 hq
  have hpt : (ns.getD q default).l.length ≤ 3 ∧ ∀ k, k < (ns.getD q default).l.length → 0 ≤ (ns.getD q default).l.getD k 0 ∧ (ns.getD q default).l.getD k 0 < (ns.getD (ns.getD q default).a.toNat default).l.length := ⟨hl3, hp2⟩
  conv => whnf
  repeat' (first
    | ((first | refine plan_in (id := 8) [0, 1, 2, 3, 4, 5, 6, 7, 8] (by kernel_rfl) (by kernel_rfl) ?_ | refine plan_in (id := 13) [0, 1, 2, 3, 4, 5, 6, 7, 8] (by kernel_rfl) (by kernel_rfl) ?_ | refine plan_in (id := 16) [0, 1, 2, 3, 4, 5, 6, 7, 8, 9, 10] (by kernel_rfl) (by kernel_rfl) ?_ | refine plan_in (id := 17) [0, 1, 2, 3, 4, 5, 6, 7, 8, 9, 10, 11, 12, 13] (by kernel_rfl) (by kernel_rfl) ?_ | refine plan_in (id := 19) [0, 1, 2, 3, 4, 5, 6, 7, 8, 9, 10, 11, 12, 13, 14, 15, 16, 17, 18, 19, 20, 21] (by kernel_rfl) (by kernel_rfl) ?_ | refine plan_in (id := 24) [0, 1, 2, 3, 4, 5, 6, 7, 8, 9, 10, 11, 12, 13, 14, 15, 16, 17, 18, 19, 20, 21, 22, 23, 24, 25, 26, 27, 28] (by kernel_rfl) (by kernel_rfl) ?_ | refine aIf_t ?_ | refine aIf_f ?_ | refine aGet_in rfl ?_ | refine And.intro (by omega) ?_ | refine And.intro rfl (And.intro (List.cons_ne_nil _ _) ?_) | refine And.intro (Nat.le_of_ble_eq_true rfl) ?_ | refine append_same ?_ | refine part_nd (by omega) ?_ | refine takeN_in ?_ | refine And.intro (pureL_ints _ _) ?_ | refine l1Turn_call (by assumption) ?_ | refine set_force ?_ | refine And.intro (by kernel_rfl) ?_); conv => whnf))
  all_goals (first | (exfalso; omega) | contradiction | skip)
  exact retDoR rfl rfl rfl rfl
end Go.Proofs.YtjmdhfjemaoebaaGreat
namespace Go.Proofs.YtjmdhfjemaoebaaGreat
set_option maxRecDepth 20000
open Go.RowKit Go.Am
set_option linter.unusedSimpArgs false
attribute [local irreducible] aPlan aGet aIf aLoop aCall RetB NextB CallB CallG aCut aSet aAppend
set_option maxHeartbeats 16000000 in
theorem l6Do_3 : Sound Tryz.prog 82 (sDo fun ch => ch = 3) := by
  refine sound_of Tryz.func82 rfl (enters_of Tryz.func82 (by kernel_rfl) (by kernel_rfl)) ?_
  rintro ⟨xss, ns, ch, q, x, n⟩ ⟨⟨⟨hE, hM, hq⟩, hx, hn⟩, hc⟩
  have hE : eP ns := hE
  have hM : (shM xss ns).2 = true := hM
  have hq : q < ns.length := hq
  have hx : x = ns.getD q default := hx
  have hn : cX ns (shM xss ns).1 ch q = some n := hn
  have hc : ch = 3 := hc
  subst hc
  subst hx
  have hX := exI_of hM
  have hz := cX_pc hn
  have h2 : 2 ≤ (ns.getD q default).op := by
    have hop := hX.op hq
    have hpc := pcN_cases (ns.getD q default).op
    omega
  obtain ⟨ha, hb⟩ := hX.ab hq h2
  have h12 := hX.n12
  have hsl := hX.len
  have hmax : maxLen = 9223372036854775807 := rfl
  rw [cX_3 hz] at hn
  obtain ⟨h9, rfl⟩ := some_of (show (if _ then some _ else none : Option Nd) = some n from hn)
  conv => whnf
  repeat' (first
    | ((first | refine plan_in (id := 8) [0, 1, 2, 3, 4, 5, 6, 7, 8] (by kernel_rfl) (by kernel_rfl) ?_ | refine plan_in (id := 13) [0, 1, 2, 3, 4, 5, 6, 7, 8] (by kernel_rfl) (by kernel_rfl) ?_ | refine plan_in (id := 16) [0, 1, 2, 3, 4, 5, 6, 7, 8, 9, 10] (by kernel_rfl) (by kernel_rfl) ?_ | refine plan_in (id := 17) [0, 1, 2, 3, 4, 5, 6, 7, 8, 9, 10, 11, 12, 13] (by kernel_rfl) (by kernel_rfl) ?_ | refine plan_in (id := 19) [0, 1, 2, 3, 4, 5, 6, 7, 8, 9, 10, 11, 12, 13, 14, 15, 16, 17, 18, 19, 20, 21] (by kernel_rfl) (by kernel_rfl) ?_ | refine plan_in (id := 24) [0, 1, 2, 3, 4, 5, 6, 7, 8, 9, 10, 11, 12, 13, 14, 15, 16, 17, 18, 19, 20, 21, 22, 23, 24, 25, 26, 27, 28] (by kernel_rfl) (by kernel_rfl) ?_ | refine aIf_t ?_ | refine aIf_f ?_ | refine aGet_in rfl ?_ | refine And.intro (by omega) ?_ | refine And.intro rfl (And.intro (List.cons_ne_nil _ _) ?_) | refine And.intro (Nat.le_of_ble_eq_true rfl) ?_ | refine append_same ?_ | refine part_nd (by omega) ?_ | refine takeN_in ?_ | refine set_force ?_ | refine And.intro (by kernel_rfl) ?_); conv => whnf))
  all_goals (first | (exfalso; omega) | contradiction | skip)
  exact retDoT rfl rfl rfl
end Go.Proofs.YtjmdhfjemaoebaaGreat
namespace Go.Proofs.YtjmdhfjemaoebaaGreat
set_option maxRecDepth 20000
open Go.RowKit Go.Am
set_option linter.unusedSimpArgs false
attribute [local irreducible] aPlan aGet aIf aLoop aCall RetB NextB CallB CallG aCut aSet aAppend
set_option maxHeartbeats 16000000 in
theorem l6Do_4 : Sound Tryz.prog 82 (sDo fun ch => ch = 4) := by
  refine sound_of Tryz.func82 rfl (enters_of Tryz.func82 (by kernel_rfl) (by kernel_rfl)) ?_
  rintro ⟨xss, ns, ch, q, x, n⟩ ⟨⟨⟨hE, hM, hq⟩, hx, hn⟩, hc⟩
  have hE : eP ns := hE
  have hM : (shM xss ns).2 = true := hM
  have hq : q < ns.length := hq
  have hx : x = ns.getD q default := hx
  have hn : cX ns (shM xss ns).1 ch q = some n := hn
  have hc : ch = 4 := hc
  subst hc
  subst hx
  have hX := exI_of hM
  have hz := cX_pc hn
  have h2 : 2 ≤ (ns.getD q default).op := by
    have hop := hX.op hq
    have hpc := pcN_cases (ns.getD q default).op
    omega
  obtain ⟨ha, hb⟩ := hX.ab hq h2
  have h12 := hX.n12
  have hsl := hX.len
  have hmax : maxLen = 9223372036854775807 := rfl
  rw [cX_4 hz] at hn
  obtain ⟨h6, rfl⟩ := some_of (show (if _ then some _ else none : Option Nd) = some n from hn)
  have hqa : (ns.getD q default).a.toNat < ns.length := by omega
  have h6a : (ns.getD (ns.getD q default).a.toNat default).op = 6 := h6.2
  have haa := hX.a hqa (by omega)
  have hs1 := hX.neg hq h6.1
  have hs2 := hX.neg hqa h6a
  conv => whnf
  repeat' (first
    | ((first | refine plan_in (id := 8) [0, 1, 2, 3, 4, 5, 6, 7, 8] (by kernel_rfl) (by kernel_rfl) ?_ | refine plan_in (id := 13) [0, 1, 2, 3, 4, 5, 6, 7, 8] (by kernel_rfl) (by kernel_rfl) ?_ | refine plan_in (id := 16) [0, 1, 2, 3, 4, 5, 6, 7, 8, 9, 10] (by kernel_rfl) (by kernel_rfl) ?_ | refine plan_in (id := 17) [0, 1, 2, 3, 4, 5, 6, 7, 8, 9, 10, 11, 12, 13] (by kernel_rfl) (by kernel_rfl) ?_ | refine plan_in (id := 19) [0, 1, 2, 3, 4, 5, 6, 7, 8, 9, 10, 11, 12, 13, 14, 15, 16, 17, 18, 19, 20, 21] (by kernel_rfl) (by kernel_rfl) ?_ | refine plan_in (id := 24) [0, 1, 2, 3, 4, 5, 6, 7, 8, 9, 10, 11, 12, 13, 14, 15, 16, 17, 18, 19, 20, 21, 22, 23, 24, 25, 26, 27, 28] (by kernel_rfl) (by kernel_rfl) ?_ | refine aIf_t ?_ | refine aIf_f ?_ | refine aGet_in rfl ?_ | refine And.intro (by omega) ?_ | refine load_same ?_ | refine And.intro rfl (And.intro (List.cons_ne_nil _ _) ?_) | refine And.intro (Nat.le_of_ble_eq_true rfl) ?_ | refine callG_t ?_ | refine append_same ?_ | refine part_nd (by omega) ?_ | refine And.intro (pureL_ii _ _) ?_ | refine And.intro (pureL_nd _ _) ?_ | refine sShapesOf_call (by assumption) ?_ | refine get_oi (by omega) ?_ | refine get_oi (by omega) ?_ | refine get_oi (by omega) ?_ | refine takeN_in ?_ | refine set_force ?_ | refine And.intro (by kernel_rfl) ?_); conv => whnf))
  all_goals (first | (exfalso; omega) | contradiction | skip)
  exact retDoR (zs := (shM xss ns).1.getD (ns.getD (ns.getD q default).a.toNat default).a.toNat []) (by rw [hs1, hs2]) rfl rfl rfl
end Go.Proofs.YtjmdhfjemaoebaaGreat
namespace Go.Proofs.YtjmdhfjemaoebaaGreat
set_option maxRecDepth 20000
open Go.RowKit Go.Am
set_option linter.unusedSimpArgs false
attribute [local irreducible] aPlan aGet aIf aLoop aCall RetB NextB CallB CallG aCut aSet aAppend
set_option maxHeartbeats 16000000 in
theorem l6Do_5 : Sound Tryz.prog 82 (sDo fun ch => ch = 5) := by
  refine sound_of Tryz.func82 rfl (enters_of Tryz.func82 (by kernel_rfl) (by kernel_rfl)) ?_
  rintro ⟨xss, ns, ch, q, x, n⟩ ⟨⟨⟨hE, hM, hq⟩, hx, hn⟩, hc⟩
  have hE : eP ns := hE
  have hM : (shM xss ns).2 = true := hM
  have hq : q < ns.length := hq
  have hx : x = ns.getD q default := hx
  have hn : cX ns (shM xss ns).1 ch q = some n := hn
  have hc : ch = 5 := hc
  subst hc
  subst hx
  have hX := exI_of hM
  have hz := cX_pc hn
  have h2 : 2 ≤ (ns.getD q default).op := by
    have hop := hX.op hq
    have hpc := pcN_cases (ns.getD q default).op
    omega
  obtain ⟨ha, hb⟩ := hX.ab hq h2
  have h12 := hX.n12
  have hsl := hX.len
  have hmax : maxLen = 9223372036854775807 := rfl
  rw [cX_5 hz] at hn
  have hb0 : 0 ≤ (ns.getD q default).b ∧ (ns.getD q default).b < ns.length := by omega
  have hn : c5 (ns.getD q default) (ns.getD (ns.getD q default).a.toNat default) (ns.getD (ns.getD q default).b.toNat default) = some n := hn
  have hi : (c5 (ns.getD q default) (ns.getD (ns.getD q default).a.toNat default) (ns.getD (ns.getD q default).b.toNat default)).isSome = true := by rw [hn]; rfl
  rw [c5_is] at hi
  have hi := of_decide_eq_true hi
  unfold c5 at hn
  by_cases e2 : (ns.getD q default).op = 2
  · rw [if_pos (by omega)] at hn
    obtain rfl := (Option.some.inj hn).symm
    have hw : IntKind.i64.wrap (5 - (ns.getD q default).op) = 3 := by rw [e2]; rfl
    conv => whnf
    repeat' (first
      | ((first | refine plan_in (id := 8) [0, 1, 2, 3, 4, 5, 6, 7, 8] (by kernel_rfl) (by kernel_rfl) ?_ | refine plan_in (id := 13) [0, 1, 2, 3, 4, 5, 6, 7, 8] (by kernel_rfl) (by kernel_rfl) ?_ | refine plan_in (id := 16) [0, 1, 2, 3, 4, 5, 6, 7, 8, 9, 10] (by kernel_rfl) (by kernel_rfl) ?_ | refine plan_in (id := 17) [0, 1, 2, 3, 4, 5, 6, 7, 8, 9, 10, 11, 12, 13] (by kernel_rfl) (by kernel_rfl) ?_ | refine plan_in (id := 19) [0, 1, 2, 3, 4, 5, 6, 7, 8, 9, 10, 11, 12, 13, 14, 15, 16, 17, 18, 19, 20, 21] (by kernel_rfl) (by kernel_rfl) ?_ | refine plan_in (id := 24) [0, 1, 2, 3, 4, 5, 6, 7, 8, 9, 10, 11, 12, 13, 14, 15, 16, 17, 18, 19, 20, 21, 22, 23, 24, 25, 26, 27, 28] (by kernel_rfl) (by kernel_rfl) ?_ | refine aIf_t ?_ | refine aIf_f ?_ | refine aGet_in rfl ?_ | refine And.intro (by omega) ?_ | refine load_same ?_ | refine And.intro rfl (And.intro (List.cons_ne_nil _ _) ?_) | refine And.intro (Nat.le_of_ble_eq_true rfl) ?_ | refine callG_t ?_ | refine append_same ?_ | refine get_nd_n (by omega) rfl ?_ | refine get_nd (by omega) rfl ?_ | refine part_nd (by omega) ?_ | refine And.intro (pureL_ii _ _) ?_ | refine And.intro (pureL_nd _ _) ?_ | refine sShapesOf_call (by assumption) ?_ | refine takeN_in ?_ | refine set_force ?_ | refine And.intro (by kernel_rfl) ?_); conv => whnf) | (refine aIf_dec (fun _ => ?_) (fun _ => ?_) <;> conv => whnf))
    all_goals (first | (exfalso; omega) | contradiction | skip)
    exact retDoR (by rw [hw]) rfl rfl rfl
  · by_cases e3 : (ns.getD q default).op = 3
    · rw [if_neg (by omega), if_pos (by omega)] at hn
      obtain rfl := (Option.some.inj hn).symm
      have hw : IntKind.i64.wrap (5 - (ns.getD q default).op) = 2 := by rw [e3]; rfl
      conv => whnf
      repeat' (first
        | ((first | refine plan_in (id := 8) [0, 1, 2, 3, 4, 5, 6, 7, 8] (by kernel_rfl) (by kernel_rfl) ?_ | refine plan_in (id := 13) [0, 1, 2, 3, 4, 5, 6, 7, 8] (by kernel_rfl) (by kernel_rfl) ?_ | refine plan_in (id := 16) [0, 1, 2, 3, 4, 5, 6, 7, 8, 9, 10] (by kernel_rfl) (by kernel_rfl) ?_ | refine plan_in (id := 17) [0, 1, 2, 3, 4, 5, 6, 7, 8, 9, 10, 11, 12, 13] (by kernel_rfl) (by kernel_rfl) ?_ | refine plan_in (id := 19) [0, 1, 2, 3, 4, 5, 6, 7, 8, 9, 10, 11, 12, 13, 14, 15, 16, 17, 18, 19, 20, 21] (by kernel_rfl) (by kernel_rfl) ?_ | refine plan_in (id := 24) [0, 1, 2, 3, 4, 5, 6, 7, 8, 9, 10, 11, 12, 13, 14, 15, 16, 17, 18, 19, 20, 21, 22, 23, 24, 25, 26, 27, 28] (by kernel_rfl) (by kernel_rfl) ?_ | refine aIf_t ?_ | refine aIf_f ?_ | refine aGet_in rfl ?_ | refine And.intro (by omega) ?_ | refine load_same ?_ | refine And.intro rfl (And.intro (List.cons_ne_nil _ _) ?_) | refine And.intro (Nat.le_of_ble_eq_true rfl) ?_ | refine callG_t ?_ | refine append_same ?_ | refine get_nd_n (by omega) rfl ?_ | refine get_nd (by omega) rfl ?_ | refine part_nd (by omega) ?_ | refine And.intro (pureL_ii _ _) ?_ | refine And.intro (pureL_nd _ _) ?_ | refine sShapesOf_call (by assumption) ?_ | refine takeN_in ?_ | refine set_force ?_ | refine And.intro (by kernel_rfl) ?_); conv => whnf) | (refine aIf_dec (fun _ => ?_) (fun _ => ?_) <;> conv => whnf))
      all_goals (first | (exfalso; omega) | contradiction | skip)
      exact retDoR (by rw [hw]) rfl rfl rfl
    · have e4 : (ns.getD q default).op = 4 := by omega
      rw [if_neg (by omega), if_neg (by omega), if_pos (by omega)] at hn
      obtain rfl := (Option.some.inj hn).symm
      conv => whnf
      repeat' (first
        | ((first | refine plan_in (id := 8) [0, 1, 2, 3, 4, 5, 6, 7, 8] (by kernel_rfl) (by kernel_rfl) ?_ | refine plan_in (id := 13) [0, 1, 2, 3, 4, 5, 6, 7, 8] (by kernel_rfl) (by kernel_rfl) ?_ | refine plan_in (id := 16) [0, 1, 2, 3, 4, 5, 6, 7, 8, 9, 10] (by kernel_rfl) (by kernel_rfl) ?_ | refine plan_in (id := 17) [0, 1, 2, 3, 4, 5, 6, 7, 8, 9, 10, 11, 12, 13] (by kernel_rfl) (by kernel_rfl) ?_ | refine plan_in (id := 19) [0, 1, 2, 3, 4, 5, 6, 7, 8, 9, 10, 11, 12, 13, 14, 15, 16, 17, 18, 19, 20, 21] (by kernel_rfl) (by kernel_rfl) ?_ | refine plan_in (id := 24) [0, 1, 2, 3, 4, 5, 6, 7, 8, 9, 10, 11, 12, 13, 14, 15, 16, 17, 18, 19, 20, 21, 22, 23, 24, 25, 26, 27, 28] (by kernel_rfl) (by kernel_rfl) ?_ | refine aIf_t ?_ | refine aIf_f ?_ | refine aGet_in rfl ?_ | refine And.intro (by omega) ?_ | refine load_same ?_ | refine And.intro rfl (And.intro (List.cons_ne_nil _ _) ?_) | refine And.intro (Nat.le_of_ble_eq_true rfl) ?_ | refine callG_t ?_ | refine append_same ?_ | refine get_nd_n (by omega) rfl ?_ | refine get_nd (by omega) rfl ?_ | refine part_nd (by omega) ?_ | refine And.intro (pureL_ii _ _) ?_ | refine And.intro (pureL_nd _ _) ?_ | refine sShapesOf_call (by assumption) ?_ | refine takeN_in ?_ | refine set_force ?_ | refine And.intro (by kernel_rfl) ?_); conv => whnf) | (refine aIf_dec (fun _ => ?_) (fun _ => ?_) <;> conv => whnf))
      all_goals (first | (exfalso; omega) | contradiction | skip)
      exact retDoR rfl rfl rfl rfl
end Go.Proofs.YtjmdhfjemaoebaaGreat
namespace Go.Proofs.YtjmdhfjemaoebaaGreat
set_option maxRecDepth 20000
open Go.RowKit Go.Am
set_option linter.unusedSimpArgs false
attribute [local irreducible] aPlan aGet aIf aLoop aCall RetB NextB CallB CallG aCut aSet aAppend
set_option maxHeartbeats 16000000 in
theorem l6Do_6 : Sound Tryz.prog 82 (sDo fun ch => ch = 6) := by
  refine sound_of Tryz.func82 rfl (enters_of Tryz.func82 (by kernel_rfl) (by kernel_rfl)) ?_
  rintro ⟨xss, ns, ch, q, x, n⟩ ⟨⟨⟨hE, hM, hq⟩, hx, hn⟩, hc⟩
  have hE : eP ns := hE
  have hM : (shM xss ns).2 = true := hM
  have hq : q < ns.length := hq
  have hx : x = ns.getD q default := hx
  have hn : cX ns (shM xss ns).1 ch q = some n := hn
  have hc : ch = 6 := hc
  subst hc
  subst hx
  have hX := exI_of hM
  have hz := cX_pc hn
  have h2 : 2 ≤ (ns.getD q default).op := by
    have hop := hX.op hq
    have hpc := pcN_cases (ns.getD q default).op
    omega
  obtain ⟨ha, hb⟩ := hX.ab hq h2
  have h12 := hX.n12
  have hsl := hX.len
  have hmax : maxLen = 9223372036854775807 := rfl
  rw [cX_6 hz] at hn
  obtain ⟨h6, rfl⟩ := some_of (show (if _ then some _ else none : Option Nd) = some n from hn)
  obtain ⟨p6, p6'⟩ := hX.c6pre hq h2
  have g10 : (ns.getD q default).op = 10 := h6.1
  have g10a : (ns.getD (ns.getD q default).a.toNat default).op = 10 := h6.2.1
  have l1 := p6 g10
  have l2 : (ns.getD (ns.getD q default).a.toNat default).l.length = 3 := p6' g10a
  have t0 : Int.toNat 0 = 0 := rfl
  have t1 : Int.toNat 1 = 1 := rfl
  have t2 : Int.toNat 2 = 2 := rfl
  have hadd : (ns.getD (ns.getD q default).a.toNat default).l.getD (Int.toNat 1) 0 + (ns.getD q default).l.getD (Int.toNat 1) 0 = (ns.getD q default).l.getD (Int.toNat 1) 0 + (ns.getD (ns.getD q default).a.toNat default).l.getD (Int.toNat 1) 0 := Int.add_comm _ _
  conv => whnf
  repeat' (first
    | ((first | refine plan_in (id := 8) [0, 1, 2, 3, 4, 5, 6, 7, 8] (by kernel_rfl) (by kernel_rfl) ?_ | refine plan_in (id := 13) [0, 1, 2, 3, 4, 5, 6, 7, 8] (by kernel_rfl) (by kernel_rfl) ?_ | refine plan_in (id := 16) [0, 1, 2, 3, 4, 5, 6, 7, 8, 9, 10] (by kernel_rfl) (by kernel_rfl) ?_ | refine plan_in (id := 17) [0, 1, 2, 3, 4, 5, 6, 7, 8, 9, 10, 11, 12, 13] (by kernel_rfl) (by kernel_rfl) ?_ | refine plan_in (id := 19) [0, 1, 2, 3, 4, 5, 6, 7, 8, 9, 10, 11, 12, 13, 14, 15, 16, 17, 18, 19, 20, 21] (by kernel_rfl) (by kernel_rfl) ?_ | refine plan_in (id := 24) [0, 1, 2, 3, 4, 5, 6, 7, 8, 9, 10, 11, 12, 13, 14, 15, 16, 17, 18, 19, 20, 21, 22, 23, 24, 25, 26, 27, 28] (by kernel_rfl) (by kernel_rfl) ?_ | refine aIf_t ?_ | refine aIf_f ?_ | refine get_int (by omega) ?_ | refine aGet_in rfl ?_ | refine And.intro (by omega) ?_ | refine load_same ?_ | refine And.intro rfl (And.intro (List.cons_ne_nil _ _) ?_) | refine And.intro (Nat.le_of_ble_eq_true rfl) ?_ | refine callG_t ?_ | refine append_same ?_ | refine part_nd (by omega) ?_ | refine And.intro (pureL_ii _ _) ?_ | refine And.intro (pureL_nd _ _) ?_ | refine sShapesOf_call (by assumption) ?_ | refine takeN_in ?_ | refine set_force ?_ | refine And.intro (And.intro (by kernel_rfl) (And.intro rfl (Nat.le_of_ble_eq_true rfl))) ?_ | refine And.intro (by kernel_rfl) ?_); conv => whnf))
  all_goals (first | (exfalso; omega) | contradiction | skip)
  exact retDoR (zs := [(ns.getD q default).l.getD (Int.toNat 0) 0, IntKind.i64.wrap ((ns.getD q default).l.getD (Int.toNat 1) 0 + (ns.getD (ns.getD q default).a.toNat default).l.getD (Int.toNat 1) 0), (ns.getD q default).l.getD (Int.toNat 2) 0]) (by rw [← hadd]) rfl rfl rfl
end Go.Proofs.YtjmdhfjemaoebaaGreat
namespace Go.Proofs.YtjmdhfjemaoebaaGreat
set_option maxRecDepth 20000
open Go.RowKit Go.Am
set_option linter.unusedSimpArgs false
attribute [local irreducible] aPlan aGet aIf aLoop aCall RetB NextB CallB CallG aCut aSet aAppend
theorem l6Whole_callW {c d e : Nat} {xss ss : List (List Int)} {ns : List Nd} {x : Nd} {w : Int} {env : List AV} {rows : List Row} {ctr low : Nat} {k : AV → St → Prop} (hpre : (0 ≤ x.a ∧ x.a < ns.length) ∧ x.op = 10 ∧ c7Pre x (nA ns x) ss) (hw : (whM x (nA ns x) ss).1 = w) (h : k (.tup [.int .i64 w, .bool (whM x (nA ns x) ss).2]) ⟨env, rows, ctr + 1, low⟩) :
    CallB Tryz.prog 127 ⟨env, rows, ctr, low⟩ [.agg [.sl c xss.length (xss.map (slI c)), .sl c ns.length (ns.flatMap (ndC c))], .sl d ss.length (ss.map (slI d)), .agg [.int .i64 x.op, .int .i64 x.a, .int .i64 x.b, .sl e x.l.length (x.l.map (.int .i64))]] k := by
  subst hw; exact l6Whole_call hpre h
set_option maxHeartbeats 16000000 in
theorem l6Do_7 : Sound Tryz.prog 82 (sDo fun ch => ch = 7) := by
  refine sound_of Tryz.func82 rfl (enters_of Tryz.func82 (by kernel_rfl) (by kernel_rfl)) ?_
  rintro ⟨xss, ns, ch, q, x, n⟩ ⟨⟨⟨hE, hM, hq⟩, hx, hn⟩, hc⟩
  have hE : eP ns := hE
  have hM : (shM xss ns).2 = true := hM
  have hq : q < ns.length := hq
  have hx : x = ns.getD q default := hx
  have hn : cX ns (shM xss ns).1 ch q = some n := hn
  have hc : ch = 7 := hc
  subst hc
  subst hx
  have hX := exI_of hM
  have hz := cX_pc hn
  have h2 : 2 ≤ (ns.getD q default).op := by
    have hop := hX.op hq
    have hpc := pcN_cases (ns.getD q default).op
    omega
  obtain ⟨ha, hb⟩ := hX.ab hq h2
  have h12 := hX.n12
  have hsl := hX.len
  have hmax : maxLen = 9223372036854775807 := rfl
  rw [cX_7 hz] at hn
  have hn : c7 (ns.getD q default) (ns.getD (ns.getD q default).a.toNat default) (shM xss ns).1 = some n := hn
  have hc7 := hX.c7pre hq h2
  have hi : (c7 (ns.getD q default) (ns.getD (ns.getD q default).a.toNat default) (shM xss ns).1).isSome = true := by rw [hn]; rfl
  have hP : c7P (ns.getD q default) (ns.getD (ns.getD q default).a.toNat default) := by
    refine Classical.byContradiction fun h => ?_
    unfold c7 at hn
    rw [if_neg h] at hn; cases hn
  have h10 : (ns.getD q default).op = 10 := hP.1
  have h11 : (ns.getD (ns.getD q default).a.toNat default).op = 11 := hP.2.1
  have h00 : (ns.getD q default).l.getD (Int.toNat 0) 0 = (ns.getD (ns.getD q default).a.toNat default).l.getD (Int.toNat 0) 0 := hP.2.2
  have hp7 : (0 ≤ (ns.getD q default).a ∧ (ns.getD q default).a < ns.length) ∧ (ns.getD q default).op = 10 ∧ c7Pre (ns.getD q default) (nA ns (ns.getD q default)) (shM xss ns).1 := ⟨by omega, h10, hc7⟩
  obtain ⟨lx, ⟨x0, x1⟩, x2⟩ := hc7.1 h10
  obtain ⟨la, a1, a2, a3⟩ : (ns.getD (ns.getD q default).a.toNat default).l.length = 1 ∧ (0 ≤ (ns.getD (ns.getD q default).a.toNat default).a ∧ (ns.getD (ns.getD q default).a.toNat default).a < (shM xss ns).1.length) ∧ (0 ≤ (ns.getD (ns.getD q default).a.toNat default).l.getD (Int.toNat 0) 0 ∧ (ns.getD (ns.getD q default).a.toNat default).l.getD (Int.toNat 0) 0 < ((shM xss ns).1.getD (ns.getD (ns.getD q default).a.toNat default).a.toNat []).length) ∧ 1 ≤ ((shM xss ns).1.getD (ns.getD (ns.getD q default).a.toNat default).a.toNat []).getD ((ns.getD (ns.getD q default).a.toNat default).l.getD (Int.toNat 0) 0).toNat 0 ∧ ((shM xss ns).1.getD (ns.getD (ns.getD q default).a.toNat default).a.toNat []).getD ((ns.getD (ns.getD q default).a.toNat default).l.getD (Int.toNat 0) 0).toNat 0 ≤ 4 := hc7.2 h11
  rw [← h00] at a2 a3
  have t0 : Int.toNat 0 = 0 := rfl
  have t1 : Int.toNat 1 = 1 := rfl
  have t2 : Int.toNat 2 = 2 := rfl
  have l3e : [(ns.getD q default).l.getD (Int.toNat 0) 0, (ns.getD q default).l.getD (Int.toNat 1) 0, (ns.getD q default).l.getD (Int.toNat 2) 0] = (ns.getD q default).l := by
    match e : (ns.getD q default).l, lx with
    | [_, _, _], _ => rfl
  have hwh : whM (ns.getD q default) (ns.getD (ns.getD q default).a.toNat default) (shM xss ns).1 = (if (ns.getD q default).l.getD (Int.toNat 1) 0 + (ns.getD q default).l.getD (Int.toNat 2) 0 ≤ c7F (ns.getD q default) (ns.getD (ns.getD q default).a.toNat default) (shM xss ns).1 then (0, true) else (1, decide (c7F (ns.getD q default) (ns.getD (ns.getD q default).a.toNat default) (shM xss ns).1 ≤ (ns.getD q default).l.getD (Int.toNat 1) 0))) := if_pos ⟨h11, h00.symm⟩
  unfold c7 at hn
  rw [if_pos hP] at hn
  by_cases g1 : c7F (ns.getD q default) (ns.getD (ns.getD q default).a.toNat default) (shM xss ns).1 ≤ (ns.getD q default).l.getD (Int.toNat 1) 0
  · rw [if_pos g1] at hn
    obtain rfl := (Option.some.inj hn).symm
    rw [if_neg (by omega)] at hwh
    have hw1 : (whM (ns.getD q default) (ns.getD (ns.getD q default).a.toNat default) (shM xss ns).1).1 = 1 := by rw [hwh]
    conv => whnf
    repeat' (first
      | ((first | refine l6Whole_callW hp7 hw1 ?_ | refine plan_in (id := 8) [0, 1, 2, 3, 4, 5, 6, 7, 8] (by kernel_rfl) (by kernel_rfl) ?_ | refine plan_in (id := 13) [0, 1, 2, 3, 4, 5, 6, 7, 8] (by kernel_rfl) (by kernel_rfl) ?_ | refine plan_in (id := 16) [0, 1, 2, 3, 4, 5, 6, 7, 8, 9, 10] (by kernel_rfl) (by kernel_rfl) ?_ | refine plan_in (id := 17) [0, 1, 2, 3, 4, 5, 6, 7, 8, 9, 10, 11, 12, 13] (by kernel_rfl) (by kernel_rfl) ?_ | refine plan_in (id := 19) [0, 1, 2, 3, 4, 5, 6, 7, 8, 9, 10, 11, 12, 13, 14, 15, 16, 17, 18, 19, 20, 21] (by kernel_rfl) (by kernel_rfl) ?_ | refine plan_in (id := 24) [0, 1, 2, 3, 4, 5, 6, 7, 8, 9, 10, 11, 12, 13, 14, 15, 16, 17, 18, 19, 20, 21, 22, 23, 24, 25, 26, 27, 28] (by kernel_rfl) (by kernel_rfl) ?_ | refine aIf_t ?_ | refine aIf_f ?_ | refine get_nat (by omega) ?_ | refine get_int (by omega) ?_ | refine aGet_in rfl ?_ | refine And.intro (by omega) ?_ | refine load_same ?_ | refine And.intro rfl (And.intro (List.cons_ne_nil _ _) ?_) | refine And.intro (Nat.le_of_ble_eq_true rfl) ?_ | refine callG_t ?_ | refine append_same ?_ | refine part_nd (by omega) ?_ | refine And.intro (pureL_ii _ _) ?_ | refine And.intro (pureL_nd _ _) ?_ | refine cut_ii rfl ?_ | refine sShapesOf_call (by assumption) ?_ | refine get_oi (by omega) ?_ | refine get_oi (by omega) ?_ | refine get_oi (by omega) ?_ | refine takeN_in ?_ | refine And.intro (pureL_ints _ _) ?_ | refine set_force ?_ | refine And.intro (And.intro (by kernel_rfl) (And.intro rfl (Nat.le_of_ble_eq_true rfl))) ?_ | refine And.intro (by kernel_rfl) ?_); conv => whnf))
    all_goals (first | (exfalso; omega) | contradiction | skip)
    exact retDoR rfl rfl (by simp only [Nat.mul_one]; rfl) rfl
  · rw [if_neg g1] at hn
    obtain ⟨g2, rfl⟩ := some_of hn
    rw [if_pos g2] at hwh
    have hw1 : (whM (ns.getD q default) (ns.getD (ns.getD q default).a.toNat default) (shM xss ns).1).1 = 0 := by rw [hwh]
    conv => whnf
    repeat' (first
      | ((first | refine l6Whole_callW hp7 hw1 ?_ | refine l6Whole_callW hp7 hw1 ?_ | refine plan_in (id := 8) [0, 1, 2, 3, 4, 5, 6, 7, 8] (by kernel_rfl) (by kernel_rfl) ?_ | refine plan_in (id := 13) [0, 1, 2, 3, 4, 5, 6, 7, 8] (by kernel_rfl) (by kernel_rfl) ?_ | refine plan_in (id := 16) [0, 1, 2, 3, 4, 5, 6, 7, 8, 9, 10] (by kernel_rfl) (by kernel_rfl) ?_ | refine plan_in (id := 17) [0, 1, 2, 3, 4, 5, 6, 7, 8, 9, 10, 11, 12, 13] (by kernel_rfl) (by kernel_rfl) ?_ | refine plan_in (id := 19) [0, 1, 2, 3, 4, 5, 6, 7, 8, 9, 10, 11, 12, 13, 14, 15, 16, 17, 18, 19, 20, 21] (by kernel_rfl) (by kernel_rfl) ?_ | refine plan_in (id := 24) [0, 1, 2, 3, 4, 5, 6, 7, 8, 9, 10, 11, 12, 13, 14, 15, 16, 17, 18, 19, 20, 21, 22, 23, 24, 25, 26, 27, 28] (by kernel_rfl) (by kernel_rfl) ?_ | refine aIf_t ?_ | refine aIf_f ?_ | refine aGet_in rfl ?_ | refine And.intro (by omega) ?_ | refine load_same ?_ | refine And.intro rfl (And.intro (List.cons_ne_nil _ _) ?_) | refine And.intro (Nat.le_of_ble_eq_true rfl) ?_ | refine callG_t ?_ | refine append_same ?_ | refine part_nd (by omega) ?_ | refine And.intro (pureL_ii _ _) ?_ | refine And.intro (pureL_nd _ _) ?_ | refine cut_ii rfl ?_ | refine sShapesOf_call (by assumption) ?_ | refine takeN_in ?_ | refine And.intro (pureL_ints _ _) ?_ | refine set_force ?_ | refine And.intro (by kernel_rfl) ?_); conv => whnf))
    all_goals (first | (exfalso; omega) | contradiction | skip)
    exact retDoT (by rw [l3e]) rfl rfl
end Go.Proofs.YtjmdhfjemaoebaaGreat
namespace Go.Proofs.YtjmdhfjemaoebaaGreat
set_option maxRecDepth 20000
open Go.RowKit Go.Am
set_option linter.unusedSimpArgs false
attribute [local irreducible] aPlan aGet aIf aLoop aCall RetB NextB CallB CallG aCut aSet aAppend
set_option maxHeartbeats 16000000 in
theorem l6Do_8 : Sound Tryz.prog 82 (sDo fun ch => ch = 8) := by
  refine sound_of Tryz.func82 rfl (enters_of Tryz.func82 (by kernel_rfl) (by kernel_rfl)) ?_
  rintro ⟨xss, ns, ch, q, x, n⟩ ⟨⟨⟨hE, hM, hq⟩, hx, hn⟩, hc⟩
  have hE : eP ns := hE
  have hM : (shM xss ns).2 = true := hM
  have hq : q < ns.length := hq
  have hx : x = ns.getD q default := hx
  have hn : cX ns (shM xss ns).1 ch q = some n := hn
  have hc : ch = 8 := hc
  subst hc
  subst hx
  have hX := exI_of hM
  have hz := cX_pc hn
  have h2 : 2 ≤ (ns.getD q default).op := by
    have hop := hX.op hq
    have hpc := pcN_cases (ns.getD q default).op
    omega
  obtain ⟨ha, hb⟩ := hX.ab hq h2
  have h12 := hX.n12
  have hsl := hX.len
  have hmax : maxLen = 9223372036854775807 := rfl
  rw [cX_8 hz] at hn
  obtain ⟨h8, rfl⟩ := some_of (show (if _ then some _ else none : Option Nd) = some n from hn)
  conv => whnf
  repeat' (first
    | ((first | refine plan_in (id := 8) [0, 1, 2, 3, 4, 5, 6, 7, 8] (by kernel_rfl) (by kernel_rfl) ?_ | refine plan_in (id := 13) [0, 1, 2, 3, 4, 5, 6, 7, 8] (by kernel_rfl) (by kernel_rfl) ?_ | refine plan_in (id := 16) [0, 1, 2, 3, 4, 5, 6, 7, 8, 9, 10] (by kernel_rfl) (by kernel_rfl) ?_ | refine plan_in (id := 17) [0, 1, 2, 3, 4, 5, 6, 7, 8, 9, 10, 11, 12, 13] (by kernel_rfl) (by kernel_rfl) ?_ | refine plan_in (id := 19) [0, 1, 2, 3, 4, 5, 6, 7, 8, 9, 10, 11, 12, 13, 14, 15, 16, 17, 18, 19, 20, 21] (by kernel_rfl) (by kernel_rfl) ?_ | refine plan_in (id := 24) [0, 1, 2, 3, 4, 5, 6, 7, 8, 9, 10, 11, 12, 13, 14, 15, 16, 17, 18, 19, 20, 21, 22, 23, 24, 25, 26, 27, 28] (by kernel_rfl) (by kernel_rfl) ?_ | refine aIf_f ?_ | refine aGet_in rfl ?_ | refine And.intro (by omega) ?_ | refine load_same ?_ | refine And.intro rfl (And.intro (List.cons_ne_nil _ _) ?_) | refine And.intro (Nat.le_of_ble_eq_true rfl) ?_ | refine callG_t ?_ | refine append_same ?_ | refine part_nd (by omega) ?_ | refine And.intro (pureL_ii _ _) ?_ | refine And.intro (pureL_nd _ _) ?_ | refine sShapesOf_call (by assumption) ?_ | refine takeN_in ?_ | refine set_force ?_ | refine And.intro (by kernel_rfl) ?_); conv => whnf))
  all_goals (first | (exfalso; omega) | contradiction | skip)
  exact retDoR rfl rfl rfl rfl
end Go.Proofs.YtjmdhfjemaoebaaGreat
namespace Go.Proofs.YtjmdhfjemaoebaaGreat
set_option maxRecDepth 20000
open Go.RowKit Go.Am
set_option linter.unusedSimpArgs false
attribute [local irreducible] aPlan aGet aIf aLoop aCall RetB NextB CallB CallG aCut aSet aAppend
theorem l6Do_sound : Sound Tryz.prog 82 (sDo fun ch => 1 ≤ ch ∧ ch ≤ 8) := by
  refine ⟨l6Do_1.1, ?_⟩
  rintro ⟨xss, ns, ch, q, x, n⟩ ⟨h, hc⟩
  have hc : 1 ≤ ch ∧ ch ≤ 8 := hc
  rcases (show ch = 1 ∨ ch = 2 ∨ ch = 3 ∨ ch = 4 ∨ ch = 5 ∨ ch = 6 ∨ ch = 7 ∨ ch = 8 by omega) with e | e | e | e | e | e | e | e
  · exact l6Do_1.2 (xss, ns, ch, q, x, n) ⟨h, e⟩
  · exact l6Do_2.2 (xss, ns, ch, q, x, n) ⟨h, e⟩
  · exact l6Do_3.2 (xss, ns, ch, q, x, n) ⟨h, e⟩
  · exact l6Do_4.2 (xss, ns, ch, q, x, n) ⟨h, e⟩
  · exact l6Do_5.2 (xss, ns, ch, q, x, n) ⟨h, e⟩
  · exact l6Do_6.2 (xss, ns, ch, q, x, n) ⟨h, e⟩
  · exact l6Do_7.2 (xss, ns, ch, q, x, n) ⟨h, e⟩
  · exact l6Do_8.2 (xss, ns, ch, q, x, n) ⟨h, e⟩
theorem l6Do_call {q : Nat} {ch : Int} {xss : List (List Int)} {ns : List Nd} {x n : Nd} {env : List AV} {rows : List Row} {ctr low : Nat} {k : AV → St → Prop} (hE : eP ns) (hM : (shM xss ns).2 = true) (hq : q < ns.length) (hx : x = ns.getD q default) (hn : cX ns (shM xss ns).1 ch q = some n) (hc : 1 ≤ ch ∧ ch ≤ 8)
    (h1 : k (.agg [.int .i64 n.op, .int .i64 n.a, .int .i64 n.b, .sl 1 n.l.length (n.l.map (.int .i64))]) ⟨env, rows, ctr + 1, low⟩) (h2 : k (.agg [.int .i64 n.op, .int .i64 n.a, .int .i64 n.b, .ref rows.length ctr 0 n.l.length]) ⟨env, rows ++ [⟨ctr, 3, 1, n.l.map (.int .i64)⟩], ctr + 1, low⟩) :
    CallB Tryz.prog 82 ⟨env, rows, ctr, low⟩ [.agg [.sl 1 xss.length (xss.map (slI 1)), .sl 1 ns.length (ns.flatMap (ndC 1))], .int .i64 ch, .agg [.int .i64 x.op, .int .i64 x.a, .int .i64 x.b, .sl 1 x.l.length (x.l.map (.int .i64))]] k := callB_in (sp := sDo fun ch => 1 ≤ ch ∧ ch ≤ 8) l6Do_sound rfl (xss, ns, ch, q, x, n) rfl ⟨⟨⟨hE, hM, hq⟩, hx, hn⟩, hc⟩ (by
  rintro r news ⟨-, ⟨rfl, rfl⟩ | ⟨rfl, rfl⟩⟩
  · simpa [AV.back, Go.Am.backL, St.news, slI] using h1
  · rw [news_prot (protL_ints _ _)]
    simpa [AV.back, Go.Am.backL, backT, backV] using h2)
end Go.Proofs.YtjmdhfjemaoebaaGreat
