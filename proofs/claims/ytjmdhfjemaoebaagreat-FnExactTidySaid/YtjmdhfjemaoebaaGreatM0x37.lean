import Derived.Test.YtjmdhfjemaoebaaGreatM0x36
namespace Go.Proofs.YtjmdhfjemaoebaaGreat
set_option maxRecDepth 20000
open Go.RowKit Go.Am
set_option linter.unusedSimpArgs false
attribute [local irreducible] aPlan aGet aIf aLoop aCall RetB NextB CallB CallG aCut aSet aAppend
def okC (xss : List (List Int)) (ns : List Nd) (ch : Int) (p : Nat) : Bool := if ch = 0 then !(neL xss ns).getD p false else (cX ns (shM xss ns).1 ch p).isSome
theorem okC_0 {xss : List (List Int)} {ns : List Nd} {p : Nat} : okC xss ns 0 p = !(neL xss ns).getD p false := if_pos rfl
theorem okC_s {xss : List (List Int)} {ns : List Nd} {ch : Int} {p : Nat} (h : ch ≠ 0) : okC xss ns ch p = (cX ns (shM xss ns).1 ch p).isSome := if_neg h
theorem cX_0 {ns : List Nd} {ss : List (List Int)} {ch : Int} {p : Nat} (h : pcN (ns.getD p default).op = 0) : cX ns ss ch p = none := if_pos h
theorem cX_1 {ns : List Nd} {ss : List (List Int)} {p : Nat} (h : pcN (ns.getD p default).op ≠ 0) : cX ns ss 1 p = c1 ns (ns.getD p default) := by unfold cX; rw [if_neg h]; rfl
theorem cX_2 {ns : List Nd} {ss : List (List Int)} {p : Nat} (h : pcN (ns.getD p default).op ≠ 0) : cX ns ss 2 p = c2 (ns.getD p default) (nA ns (ns.getD p default)) := by unfold cX; rw [if_neg h]; rfl
theorem cX_3 {ns : List Nd} {ss : List (List Int)} {p : Nat} (h : pcN (ns.getD p default).op ≠ 0) : cX ns ss 3 p = c3 (ns.getD p default) (nA ns (ns.getD p default)) := by unfold cX; rw [if_neg h]; rfl
theorem cX_4 {ns : List Nd} {ss : List (List Int)} {p : Nat} (h : pcN (ns.getD p default).op ≠ 0) : cX ns ss 4 p = c4 (ns.getD p default) (nA ns (ns.getD p default)) (ss.getD p []) := by unfold cX; rw [if_neg h]; rfl
theorem cX_5 {ns : List Nd} {ss : List (List Int)} {p : Nat} (h : pcN (ns.getD p default).op ≠ 0) : cX ns ss 5 p = c5 (ns.getD p default) (nA ns (ns.getD p default)) (nB ns (ns.getD p default)) := by unfold cX; rw [if_neg h]; rfl
theorem cX_6 {ns : List Nd} {ss : List (List Int)} {p : Nat} (h : pcN (ns.getD p default).op ≠ 0) : cX ns ss 6 p = c6 (ns.getD p default) (nA ns (ns.getD p default)) := by unfold cX; rw [if_neg h]; rfl
theorem cX_7 {ns : List Nd} {ss : List (List Int)} {p : Nat} (h : pcN (ns.getD p default).op ≠ 0) : cX ns ss 7 p = c7 (ns.getD p default) (nA ns (ns.getD p default)) ss := by unfold cX; rw [if_neg h]; rfl
theorem cX_8 {ns : List Nd} {ss : List (List Int)} {p : Nat} (h : pcN (ns.getD p default).op ≠ 0) : cX ns ss 8 p = c8 (ns.getD p default) := by unfold cX; rw [if_neg h]; rfl
theorem cX_n {ns : List Nd} {ss : List (List Int)} {p : Nat} (h : pcN (ns.getD p default).op ≠ 0) {ch : Int} (hc : ¬ (1 ≤ ch ∧ ch ≤ 8)) : cX ns ss ch p = none := by
  unfold cX
  rw [if_neg h, if_neg (by omega), if_neg (by omega), if_neg (by omega), if_neg (by omega), if_neg (by omega), if_neg (by omega), if_neg (by omega), if_neg (by omega)]
def sOk (p : Int → Prop) : CSpec := fnS (ι := Nat × List (List Int) × List Nd × Int × Nat) (fun | (c, xss, ns, ch, q) => [.agg [.sl c xss.length (xss.map (slI c)), .sl c ns.length (ns.flatMap (ndC c))], .int .i64 ch, .int .i64 q]) (fun | (_, xss, ns, ch, q) => (eP ns ∧ (shM xss ns).2 = true ∧ q < ns.length) ∧ p ch) (fun | (_, xss, ns, ch, q) => .bool (okC xss ns ch q))
theorem ite_is {P : Prop} [Decidable P] {x : Nd} : (if P then some x else none : Option Nd).isSome = decide P := by
  by_cases h : P
  · rw [if_pos h, decide_eq_true h]; rfl
  · rw [if_neg h, decide_eq_false h]; rfl
theorem c1_is {ns : List Nd} {x : Nd} : (c1 ns x).isSome = decide (¬ ((fsN ns x.a.toNat : Int) = x.a ∧ (fsN ns x.b.toNat : Int) = x.b)) := by
  unfold c1
  by_cases h : (fsN ns x.a.toNat : Int) = x.a ∧ (fsN ns x.b.toNat : Int) = x.b
  · rw [if_pos h, decide_eq_false fun h' => h' h]; rfl
  · rw [if_neg h, decide_eq_true h]; rfl
theorem bne_f {a b : Int} (h : a = b) : (a != b) = false := by subst h; simp
theorem bne_t {a b : Int} (h : a ≠ b) : (a != b) = true := by simpa using h
theorem c5_is {x a b : Nd} : (c5 x a b).isSome = decide ((x.op = 2 ∧ b.op = 6) ∨ (x.op = 3 ∧ b.op = 6) ∨ (x.op = 4 ∧ a.op = 6 ∧ b.op = 6)) := by
  unfold c5
  by_cases h1 : x.op = 2 ∧ b.op = 6
  · rw [if_pos h1, decide_eq_true (.inl h1)]; rfl
  · by_cases h2 : x.op = 3 ∧ b.op = 6
    · rw [if_neg h1, if_pos h2, decide_eq_true (.inr (.inl h2))]; rfl
    · by_cases h3 : x.op = 4 ∧ a.op = 6 ∧ b.op = 6
      · rw [if_neg h1, if_neg h2, if_pos h3, decide_eq_true (.inr (.inr h3))]; rfl
      · rw [if_neg h1, if_neg h2, if_neg h3, decide_eq_false (by omega)]; rfl
end Go.Proofs.YtjmdhfjemaoebaaGreat
namespace Go.Proofs.YtjmdhfjemaoebaaGreat
set_option maxRecDepth 20000
open Go.RowKit Go.Am
set_option linter.unusedSimpArgs false
attribute [local irreducible] aPlan aGet aIf aLoop aCall RetB NextB CallB CallG aCut aSet aAppend
def sNC (p : Int → Int → Prop) : CSpec := fnNB (ι := Nat × Nat × List (List Int) × List Nd × List (List Int) × Int × Nat) 3 (fun | (c, d, _, ns, ss, ch, q) => [.sl c ns.length (ns.flatMap (ndC c)), .sl d ss.length (ss.map (slI d)), .int .i64 ch, .int .i64 q]) (fun | (_, _, xss, ns, ss, ch, q) => (ExI xss ns ss ∧ q < ns.length) ∧ p ch (pcN (ns.getD q default).op)) (fun | (_, _, _, ns, ss, ch, q) => cX ns ss ch q)
end Go.Proofs.YtjmdhfjemaoebaaGreat
namespace Go.Proofs.YtjmdhfjemaoebaaGreat
set_option maxRecDepth 20000
open Go.RowKit Go.Am
set_option linter.unusedSimpArgs false
attribute [local irreducible] aPlan aGet aIf aLoop aCall RetB NextB CallB CallG aCut aSet aAppend
set_option maxHeartbeats 8000000 in
theorem onceChanged_sound : Sound Tryz.prog 132 (fnNB (ι := Nat × List Nd × Nat × Nd) 3 (fun | (c, ns, d, x) => [.sl c ns.length (ns.flatMap (ndC c)), .agg [.int .i64 x.op, .int .i64 x.a, .int .i64 x.b, .sl d x.l.length (x.l.map (.int .i64))]]) (fun | (_, ns, _, x) => ((0 ≤ x.a ∧ x.a < ns.length) ∧ (0 ≤ x.b ∧ x.b < ns.length)) ∧ ns.length ≤ 1048576 ∧ x.l.length ≤ 1048576) (fun | (_, ns, _, x) => c1 ns x)) := by
  refine sound_of Tryz.func132 rfl (enters_of Tryz.func132 (by kernel_rfl) (by kernel_rfl)) ?_
  rintro ⟨c, ns, d, x⟩ hpre
  obtain ⟨⟨ha, hb⟩, hn, hl⟩ : ((0 ≤ x.a ∧ x.a < ns.length) ∧ (0 ≤ x.b ∧ x.b < ns.length)) ∧ ns.length ≤ 1048576 ∧ x.l.length ≤ 1048576 := hpre
  have hmax : maxLen = 9223372036854775807 := rfl
  by_cases ea : (fsN ns x.a.toNat : Int) = x.a
  · by_cases eb : (fsN ns x.b.toNat : Int) = x.b
    · have hM : c1 ns x = none := if_pos ⟨ea, eb⟩
      conv => whnf
      repeat' (first
        | ((first | refine aIf_t ?_ | refine aIf_f ?_ | refine aGet_in rfl ?_ | refine And.intro (by omega) ?_ | refine load_same ?_ | refine And.intro rfl (And.intro (List.cons_ne_nil _ _) ?_) | refine And.intro (Nat.le_of_ble_eq_true rfl) ?_ | refine callG_t ?_ | refine append_same ?_ | refine And.intro (pureL_nd _ _) ?_ | refine copyNode_call (by first | assumption | omega) ?_ | refine firstSame_call (by omega) ?_ | refine takeN_in ?_ | refine And.intro (pureL_ints _ _) ?_ | refine set_force ?_ | refine And.intro (by kernel_rfl) ?_); conv => whnf) | refine aIf_eqt ?_
        | (refine aIf_dec (fun _ => ?_) (fun _ => ?_) <;> conv => whnf))
      all_goals (first | (exfalso; omega) | contradiction | skip)
      exact retNB_f hM rfl
    · have hM : c1 ns x = some ⟨x.op, fsN ns x.a.toNat, fsN ns x.b.toNat, x.l⟩ := if_neg fun h => eb h.2
      conv => whnf
      repeat' (first
        | ((first | refine aIf_t ?_ | refine aIf_f ?_ | refine aGet_in rfl ?_ | refine And.intro (by omega) ?_ | refine load_same ?_ | refine And.intro rfl (And.intro (List.cons_ne_nil _ _) ?_) | refine And.intro (Nat.le_of_ble_eq_true rfl) ?_ | refine callG_t ?_ | refine append_same ?_ | refine And.intro (pureL_nd _ _) ?_ | refine copyNode_call (by first | assumption | omega) ?_ | refine firstSame_call (by omega) ?_ | refine takeN_in ?_ | refine And.intro (pureL_ints _ _) ?_ | refine set_force ?_ | refine And.intro (by kernel_rfl) ?_); conv => whnf) | refine aIf_eqt ?_
        | (refine aIf_dec (fun _ => ?_) (fun _ => ?_) <;> conv => whnf))
      all_goals (first | (exfalso; omega) | contradiction | skip)
      exact retNB_t hM rfl rfl rfl
  · have hM : c1 ns x = some ⟨x.op, fsN ns x.a.toNat, fsN ns x.b.toNat, x.l⟩ := if_neg fun h => ea h.1
    conv => whnf
    repeat' (first
      | ((first | refine aIf_t ?_ | refine aIf_f ?_ | refine aGet_in rfl ?_ | refine And.intro (by omega) ?_ | refine load_same ?_ | refine And.intro rfl (And.intro (List.cons_ne_nil _ _) ?_) | refine And.intro (Nat.le_of_ble_eq_true rfl) ?_ | refine callG_t ?_ | refine append_same ?_ | refine And.intro (pureL_nd _ _) ?_ | refine copyNode_call (by first | assumption | omega) ?_ | refine firstSame_call (by omega) ?_ | refine takeN_in ?_ | refine And.intro (pureL_ints _ _) ?_ | refine set_force ?_ | refine And.intro (by kernel_rfl) ?_); conv => whnf) | refine aIf_eqt ?_
      | (refine aIf_dec (fun _ => ?_) (fun _ => ?_) <;> conv => whnf))
    all_goals (first | (exfalso; omega) | contradiction | skip)
    exact retNB_t hM rfl rfl rfl
theorem onceChanged_call {c d : Nat} {ns : List Nd} {x : Nd} {env : List AV} {rows : List Row} {ctr low : Nat} {k : AV → St → Prop} (hpre : ((0 ≤ x.a ∧ x.a < ns.length) ∧ (0 ≤ x.b ∧ x.b < ns.length)) ∧ ns.length ≤ 1048576 ∧ x.l.length ≤ 1048576) (h : k (.tup [.agg [.int .i64 ((c1 ns x).getD default).op, .int .i64 ((c1 ns x).getD default).a, .int .i64 ((c1 ns x).getD default).b, .ref rows.length ctr 0 ((c1 ns x).getD default).l.length], .bool (c1 ns x).isSome]) ⟨env, rows ++ [⟨ctr, 3, 1, ((c1 ns x).getD default).l.map (.int .i64)⟩], ctr + 1, low⟩) :
    CallB Tryz.prog 132 ⟨env, rows, ctr, low⟩ [.sl c ns.length (ns.flatMap (ndC c)), .agg [.int .i64 x.op, .int .i64 x.a, .int .i64 x.b, .sl d x.l.length (x.l.map (.int .i64))]] k := callNB_in onceChanged_sound (c, ns, d, x) hpre h
end Go.Proofs.YtjmdhfjemaoebaaGreat
namespace Go.Proofs.YtjmdhfjemaoebaaGreat
set_option maxRecDepth 20000
open Go.RowKit Go.Am
set_option linter.unusedSimpArgs false
attribute [local irreducible] aPlan aGet aIf aLoop aCall RetB NextB CallB CallG aCut aSet aAppend
set_option maxHeartbeats 16000000 in
theorem nodeChanged_z : Sound Tryz.prog 89 (sNC fun _ z => z = 0) := by
  refine sound_of Tryz.func89 rfl (enters_of Tryz.func89 (by kernel_rfl) (by kernel_rfl)) ?_
  rintro ⟨c, d, xss, ns, ss, ch, q⟩ ⟨⟨hX, hq⟩, hc⟩
  have hX : ExI xss ns ss := hX
  have hq : q < ns.length := hq
  have hmax : maxLen = 9223372036854775807 := rfl
  have hz : pcN (ns.getD q default).op = 0 := hc
  have hM : cX ns ss ch q = none := cX_0 hz
  conv => whnf
  repeat' (first
    | ((first | refine plan_in (id := 14) [0, 1, 2, 3, 4, 5, 6, 7, 8, 9, 10] (by kernel_rfl) (by kernel_rfl) ?_ | refine aGet_in rfl ?_ | refine And.intro (by omega) ?_ | refine load_same ?_ | refine And.intro (Nat.le_of_ble_eq_true rfl) ?_ | refine callG_t ?_ | refine append_same ?_ | refine get_ii_n (by omega) ?_ | refine part_nd_n (by omega) ?_ | refine partCount_call trivial ?_); conv => whnf) | (refine onceChanged_call (by first | omega | assumption | (refine ⟨?_, ?_⟩ <;> first | assumption | omega) | (refine ⟨?_, ?_, ?_⟩ <;> first | assumption | omega)) ?_; conv => whnf) | (refine partChanged_call (by first | omega | assumption | (refine ⟨?_, ?_⟩ <;> first | assumption | omega) | (refine ⟨?_, ?_, ?_⟩ <;> first | assumption | omega)) ?_; conv => whnf) | ((first | refine takeN_in ?_ | refine set_force ?_ | refine And.intro (by kernel_rfl) ?_); conv => whnf) | (refine aIf_dec (fun _ => ?_) (fun _ => ?_) <;> conv => whnf))
  all_goals (first | (exfalso; omega) | contradiction | skip)
  all_goals exact retNB_f hM rfl
set_option maxHeartbeats 16000000 in
theorem nodeChanged_n : Sound Tryz.prog 89 (sNC fun ch z => z ≠ 0 ∧ ¬ (1 ≤ ch ∧ ch ≤ 8)) := by
  refine sound_of Tryz.func89 rfl (enters_of Tryz.func89 (by kernel_rfl) (by kernel_rfl)) ?_
  rintro ⟨c, d, xss, ns, ss, ch, q⟩ ⟨⟨hX, hq⟩, hc⟩
  have hX : ExI xss ns ss := hX
  have hq : q < ns.length := hq
  have hmax : maxLen = 9223372036854775807 := rfl
  have hz : pcN (ns.getD q default).op ≠ 0 := hc.1
  have h2 : 2 ≤ (ns.getD q default).op := by
    have hop := hX.op hq
    have hpc := pcN_cases (ns.getD q default).op
    omega
  obtain ⟨ha, hb⟩ := hX.ab hq h2
  have hsl := hX.len
  have hn : ¬ (1 ≤ ch ∧ ch ≤ 8) := hc.2
  have hM : cX ns ss ch q = none := cX_n hz hn
  conv => whnf
  repeat' (first
    | ((first | refine plan_in (id := 14) [0, 1, 2, 3, 4, 5, 6, 7, 8, 9, 10] (by kernel_rfl) (by kernel_rfl) ?_ | refine aGet_in rfl ?_ | refine And.intro (by omega) ?_ | refine load_same ?_ | refine And.intro (Nat.le_of_ble_eq_true rfl) ?_ | refine callG_t ?_ | refine append_same ?_ | refine get_ii_n (by omega) ?_ | refine part_nd_n (by omega) ?_ | refine part_nd (by omega) ?_ | refine partCount_call trivial ?_); conv => whnf) | (refine onceChanged_call (by first | omega | assumption | (refine ⟨?_, ?_⟩ <;> first | assumption | omega) | (refine ⟨?_, ?_, ?_⟩ <;> first | assumption | omega)) ?_; conv => whnf) | (refine partChanged_call (by first | omega | assumption | (refine ⟨?_, ?_⟩ <;> first | assumption | omega) | (refine ⟨?_, ?_, ?_⟩ <;> first | assumption | omega)) ?_; conv => whnf) | ((first | refine takeN_in ?_ | refine set_force ?_ | refine And.intro (by kernel_rfl) ?_); conv => whnf) | (refine aIf_dec (fun _ => ?_) (fun _ => ?_) <;> conv => whnf))
  all_goals (first | (exfalso; omega) | contradiction | skip)
  all_goals exact retNB_f hM rfl
set_option maxHeartbeats 16000000 in
theorem nodeChanged_1 : Sound Tryz.prog 89 (sNC fun ch z => z ≠ 0 ∧ ch = 1) := by
  refine sound_of Tryz.func89 rfl (enters_of Tryz.func89 (by kernel_rfl) (by kernel_rfl)) ?_
  rintro ⟨c, d, xss, ns, ss, ch, q⟩ ⟨⟨hX, hq⟩, hc⟩
  have hX : ExI xss ns ss := hX
  have hq : q < ns.length := hq
  have hmax : maxLen = 9223372036854775807 := rfl
  have hz : pcN (ns.getD q default).op ≠ 0 := hc.1
  have h2 : 2 ≤ (ns.getD q default).op := by
    have hop := hX.op hq
    have hpc := pcN_cases (ns.getD q default).op
    omega
  obtain ⟨ha, hb⟩ := hX.ab hq h2
  have hsl := hX.len
  have pk : ((0 ≤ (ns.getD q default).a ∧ (ns.getD q default).a < ns.length) ∧ (0 ≤ (ns.getD q default).b ∧ (ns.getD q default).b < ns.length)) ∧ ns.length ≤ 1048576 ∧ (ns.getD q default).l.length ≤ 1048576 := by have := hX.l3 hq; have := hX.n12; omega
  have hc : ch = 1 := hc.2
  subst hc
  have hM : cX ns ss 1 q = _ := cX_1 hz
  conv => whnf
  repeat' (first
    | ((first | refine onceChanged_call pk ?_ | refine plan_in (id := 14) [0, 1, 2, 3, 4, 5, 6, 7, 8, 9, 10] (by kernel_rfl) (by kernel_rfl) ?_ | refine aIf_t ?_ | refine aGet_in rfl ?_ | refine And.intro (by omega) ?_ | refine load_same ?_ | refine And.intro (Nat.le_of_ble_eq_true rfl) ?_ | refine callG_t ?_ | refine append_same ?_ | refine part_nd_n (by omega) ?_ | refine part_nd (by omega) ?_ | refine And.intro (pureL_nd _ _) ?_ | refine partCount_call trivial ?_ | refine takeN_in ?_ | refine And.intro (pureL_ints _ _) ?_ | refine set_force ?_ | refine And.intro (by kernel_rfl) ?_); conv => whnf) | (refine aIf_dec (fun _ => ?_) (fun _ => ?_) <;> conv => whnf))
  all_goals (first | (exfalso; omega) | contradiction | skip)
  all_goals exact retNB (congrArg (Option.getD · default) hM) (congrArg Option.isSome hM) rfl rfl rfl
end Go.Proofs.YtjmdhfjemaoebaaGreat
namespace Go.Proofs.YtjmdhfjemaoebaaGreat
set_option maxRecDepth 20000
open Go.RowKit Go.Am
set_option linter.unusedSimpArgs false
attribute [local irreducible] aPlan aGet aIf aLoop aCall RetB NextB CallB CallG aCut aSet aAppend
set_option maxHeartbeats 8000000 in
theorem turnChanged_sound : Sound Tryz.prog 133 (fnNB (ι := Nat × Nd × Nat × Nd) 3 (fun | (c, x, d, a) => [.agg [.int .i64 x.op, .int .i64 x.a, .int .i64 x.b, .sl c x.l.length (x.l.map (.int .i64))], .agg [.int .i64 a.op, .int .i64 a.a, .int .i64 a.b, .sl d a.l.length (a.l.map (.int .i64))]]) (fun | (_, x, _, a) => (x.op = 8 ∧ a.op = 8) → x.l.length ≤ 1048576 ∧ ∀ j, j < x.l.length → 0 ≤ x.l.getD j 0 ∧ x.l.getD j 0 < a.l.length) (fun | (_, x, _, a) => c2 x a)) := by
  refine sound_of Tryz.func133 rfl (enters_of Tryz.func133 (by kernel_rfl) (by kernel_rfl)) ?_
  rintro ⟨c, x, d, a⟩ hpre
  have hpre : (x.op = 8 ∧ a.op = 8) → x.l.length ≤ 1048576 ∧ ∀ j, j < x.l.length → 0 ≤ x.l.getD j 0 ∧ x.l.getD j 0 < a.l.length := hpre
  by_cases h : x.op = 8 ∧ a.op = 8
  · have hM : c2 x a = some ⟨8, a.a, 0, turned a.l x.l⟩ := if_pos h
    have hp := hpre h
    conv => whnf
    repeat' (first
      | ((first | refine plan_in (id := 3) [0, 1, 2, 3, 4, 5, 6, 7, 8, 9] (by kernel_rfl) (by kernel_rfl) ?_ | refine aIf_t ?_ | refine aIf_f ?_ | refine aGet_in rfl ?_ | refine And.intro (by omega) ?_ | refine And.intro rfl (And.intro (List.cons_ne_nil _ _) ?_) | refine And.intro (Nat.le_of_ble_eq_true rfl) ?_); conv => whnf) | (refine pickNums_call (by first | omega | assumption | (refine ⟨?_, ?_⟩ <;> first | assumption | omega) | (refine ⟨?_, ?_, ?_⟩ <;> first | assumption | omega)) ?_; conv => whnf) | ((first | refine append_same ?_ | refine takeN_in ?_ | refine And.intro (pureL_ints _ _) ?_ | refine set_force ?_ | refine And.intro (by kernel_rfl) ?_); conv => whnf) | refine aIf_eqf ?_
      | refine aIf_not ?_ | (refine aIf_dec (fun _ => ?_) (fun _ => ?_) <;> conv => whnf))
    all_goals (first | (exfalso; omega) | contradiction | skip)
    exact retNB_t hM rfl rfl rfl
  · have hM : c2 x a = none := if_neg h
    conv => whnf
    repeat' (first
      | ((first | refine plan_in (id := 3) [0, 1, 2, 3, 4, 5, 6, 7, 8, 9] (by kernel_rfl) (by kernel_rfl) ?_ | refine aIf_t ?_ | refine aIf_f ?_ | refine aGet_in rfl ?_ | refine And.intro (by omega) ?_ | refine And.intro rfl (And.intro (List.cons_ne_nil _ _) ?_) | refine And.intro (Nat.le_of_ble_eq_true rfl) ?_); conv => whnf) | (refine pickNums_call (by first | omega | assumption | (refine ⟨?_, ?_⟩ <;> first | assumption | omega) | (refine ⟨?_, ?_, ?_⟩ <;> first | assumption | omega)) ?_; conv => whnf) | ((first | refine append_same ?_ | refine takeN_in ?_ | refine set_force ?_ | refine And.intro (by kernel_rfl) ?_); conv => whnf) | refine aIf_eqf ?_
      | refine aIf_not ?_ | (refine aIf_dec (fun _ => ?_) (fun _ => ?_) <;> conv => whnf))
    all_goals (first | (exfalso; omega) | contradiction | skip)
    all_goals exact retNB_f hM rfl
theorem turnChanged_call {c d : Nat} {x a : Nd} {env : List AV} {rows : List Row} {ctr low : Nat} {k : AV → St → Prop} (hpre : (x.op = 8 ∧ a.op = 8) → x.l.length ≤ 1048576 ∧ ∀ j, j < x.l.length → 0 ≤ x.l.getD j 0 ∧ x.l.getD j 0 < a.l.length) (h : k (.tup [.agg [.int .i64 ((c2 x a).getD default).op, .int .i64 ((c2 x a).getD default).a, .int .i64 ((c2 x a).getD default).b, .ref rows.length ctr 0 ((c2 x a).getD default).l.length], .bool (c2 x a).isSome]) ⟨env, rows ++ [⟨ctr, 3, 1, ((c2 x a).getD default).l.map (.int .i64)⟩], ctr + 1, low⟩) :
    CallB Tryz.prog 133 ⟨env, rows, ctr, low⟩ [.agg [.int .i64 x.op, .int .i64 x.a, .int .i64 x.b, .sl c x.l.length (x.l.map (.int .i64))], .agg [.int .i64 a.op, .int .i64 a.a, .int .i64 a.b, .sl d a.l.length (a.l.map (.int .i64))]] k := callNB_in turnChanged_sound (c, x, d, a) hpre h
set_option maxHeartbeats 8000000 in
theorem foldChanged_sound : Sound Tryz.prog 134 (fnNB (ι := Nat × Nd × Nat × Nd) 3 (fun | (c, x, d, a) => [.agg [.int .i64 x.op, .int .i64 x.a, .int .i64 x.b, .sl c x.l.length (x.l.map (.int .i64))], .agg [.int .i64 a.op, .int .i64 a.a, .int .i64 a.b, .sl d a.l.length (a.l.map (.int .i64))]]) (fun | (_, x, _, _) => x.l.length ≤ 1048576) (fun | (_, x, _, a) => c3 x a)) := by
  refine sound_of Tryz.func134 rfl (enters_of Tryz.func134 (by kernel_rfl) (by kernel_rfl)) ?_
  rintro ⟨c, x, d, a⟩ hpre
  have hpre : x.l.length ≤ 1048576 := hpre
  by_cases h : x.op = 9 ∧ a.op = 9
  · have hM : c3 x a = some ⟨9, a.a, 0, x.l⟩ := if_pos h
    conv => whnf
    repeat' (first
      | ((first | refine plan_in (id := 3) [0, 1, 2, 3, 4, 5, 6, 7] (by kernel_rfl) (by kernel_rfl) ?_ | refine aIf_t ?_ | refine aIf_f ?_ | refine aGet_in rfl ?_ | refine And.intro (by omega) ?_ | refine And.intro rfl (And.intro (List.cons_ne_nil _ _) ?_) | refine And.intro (Nat.le_of_ble_eq_true rfl) ?_ | refine copyNums_call (by omega) ?_ | refine append_same ?_ | refine takeN_in ?_ | refine And.intro (pureL_ints _ _) ?_ | refine set_force ?_ | refine And.intro (by kernel_rfl) ?_); conv => whnf) | refine aIf_eqf ?_
      | refine aIf_not ?_ | (refine aIf_dec (fun _ => ?_) (fun _ => ?_) <;> conv => whnf))
    all_goals (first | (exfalso; omega) | contradiction | skip)
    exact retNB_t hM rfl rfl rfl
  · have hM : c3 x a = none := if_neg h
    conv => whnf
    repeat' (first
      | ((first | refine plan_in (id := 3) [0, 1, 2, 3, 4, 5, 6, 7] (by kernel_rfl) (by kernel_rfl) ?_ | refine aIf_t ?_ | refine aIf_f ?_ | refine aGet_in rfl ?_ | refine And.intro (by omega) ?_ | refine And.intro rfl (And.intro (List.cons_ne_nil _ _) ?_) | refine And.intro (Nat.le_of_ble_eq_true rfl) ?_ | refine copyNums_call (by omega) ?_ | refine append_same ?_ | refine takeN_in ?_ | refine set_force ?_ | refine And.intro (by kernel_rfl) ?_); conv => whnf) | refine aIf_eqf ?_
      | refine aIf_not ?_ | (refine aIf_dec (fun _ => ?_) (fun _ => ?_) <;> conv => whnf))
    all_goals (first | (exfalso; omega) | contradiction | skip)
    all_goals exact retNB_f hM rfl
theorem foldChanged_call {c d : Nat} {x a : Nd} {env : List AV} {rows : List Row} {ctr low : Nat} {k : AV → St → Prop} (hpre : x.l.length ≤ 1048576) (h : k (.tup [.agg [.int .i64 ((c3 x a).getD default).op, .int .i64 ((c3 x a).getD default).a, .int .i64 ((c3 x a).getD default).b, .ref rows.length ctr 0 ((c3 x a).getD default).l.length], .bool (c3 x a).isSome]) ⟨env, rows ++ [⟨ctr, 3, 1, ((c3 x a).getD default).l.map (.int .i64)⟩], ctr + 1, low⟩) :
    CallB Tryz.prog 134 ⟨env, rows, ctr, low⟩ [.agg [.int .i64 x.op, .int .i64 x.a, .int .i64 x.b, .sl c x.l.length (x.l.map (.int .i64))], .agg [.int .i64 a.op, .int .i64 a.a, .int .i64 a.b, .sl d a.l.length (a.l.map (.int .i64))]] k := callNB_in foldChanged_sound (c, x, d, a) hpre h
set_option maxHeartbeats 8000000 in
theorem negChanged_sound : Sound Tryz.prog 135 (fnNB (ι := Nat × Nd × Nat × Nd × Nat × List Int) 3 (fun | (c, x, d, a, e, sh) => [.agg [.int .i64 x.op, .int .i64 x.a, .int .i64 x.b, .sl c x.l.length (x.l.map (.int .i64))], .agg [.int .i64 a.op, .int .i64 a.a, .int .i64 a.b, .sl d a.l.length (a.l.map (.int .i64))], .sl e sh.length (sh.map (.int .i64))]) (fun | (_, _, _, _, _, sh) => sh.length ≤ 1048576) (fun | (_, x, _, a, _, sh) => c4 x a sh)) := by
  refine sound_of Tryz.func135 rfl (enters_of Tryz.func135 (by kernel_rfl) (by kernel_rfl)) ?_
  rintro ⟨c, x, d, a, e, sh⟩ hpre
  have hpre : sh.length ≤ 1048576 := hpre
  by_cases h : x.op = 6 ∧ a.op = 6
  · have hM : c4 x a sh = some ⟨9, a.a, 0, sh⟩ := if_pos h
    conv => whnf
    repeat' (first
      | ((first | refine plan_in (id := 3) [0, 1, 2, 3, 4, 5, 6] (by kernel_rfl) (by kernel_rfl) ?_ | refine aIf_t ?_ | refine aIf_f ?_ | refine aGet_in rfl ?_ | refine And.intro (by omega) ?_ | refine And.intro rfl (And.intro (List.cons_ne_nil _ _) ?_) | refine And.intro (Nat.le_of_ble_eq_true rfl) ?_ | refine copyNums_call (by omega) ?_ | refine append_same ?_ | refine takeN_in ?_ | refine And.intro (pureL_ints _ _) ?_ | refine set_force ?_ | refine And.intro (by kernel_rfl) ?_); conv => whnf) | refine aIf_eqf ?_
      | refine aIf_not ?_ | (refine aIf_dec (fun _ => ?_) (fun _ => ?_) <;> conv => whnf))
    all_goals (first | (exfalso; omega) | contradiction | skip)
    exact retNB_t hM rfl rfl rfl
  · have hM : c4 x a sh = none := if_neg h
    conv => whnf
    repeat' (first
      | ((first | refine plan_in (id := 3) [0, 1, 2, 3, 4, 5, 6] (by kernel_rfl) (by kernel_rfl) ?_ | refine aIf_t ?_ | refine aIf_f ?_ | refine aGet_in rfl ?_ | refine And.intro (by omega) ?_ | refine And.intro rfl (And.intro (List.cons_ne_nil _ _) ?_) | refine And.intro (Nat.le_of_ble_eq_true rfl) ?_ | refine copyNums_call (by omega) ?_ | refine append_same ?_ | refine takeN_in ?_ | refine set_force ?_ | refine And.intro (by kernel_rfl) ?_); conv => whnf) | refine aIf_eqf ?_
      | refine aIf_not ?_ | (refine aIf_dec (fun _ => ?_) (fun _ => ?_) <;> conv => whnf))
    all_goals (first | (exfalso; omega) | contradiction | skip)
    all_goals exact retNB_f hM rfl
theorem negChanged_call {c d e : Nat} {x a : Nd} {sh : List Int} {env : List AV} {rows : List Row} {ctr low : Nat} {k : AV → St → Prop} (hpre : sh.length ≤ 1048576) (h : k (.tup [.agg [.int .i64 ((c4 x a sh).getD default).op, .int .i64 ((c4 x a sh).getD default).a, .int .i64 ((c4 x a sh).getD default).b, .ref rows.length ctr 0 ((c4 x a sh).getD default).l.length], .bool (c4 x a sh).isSome]) ⟨env, rows ++ [⟨ctr, 3, 1, ((c4 x a sh).getD default).l.map (.int .i64)⟩], ctr + 1, low⟩) :
    CallB Tryz.prog 135 ⟨env, rows, ctr, low⟩ [.agg [.int .i64 x.op, .int .i64 x.a, .int .i64 x.b, .sl c x.l.length (x.l.map (.int .i64))], .agg [.int .i64 a.op, .int .i64 a.a, .int .i64 a.b, .sl d a.l.length (a.l.map (.int .i64))], .sl e sh.length (sh.map (.int .i64))] k := callNB_in negChanged_sound (c, x, d, a, e, sh) hpre h
end Go.Proofs.YtjmdhfjemaoebaaGreat
namespace Go.Proofs.YtjmdhfjemaoebaaGreat
set_option maxRecDepth 20000
open Go.RowKit Go.Am
set_option linter.unusedSimpArgs false
attribute [local irreducible] aPlan aGet aIf aLoop aCall RetB NextB CallB CallG aCut aSet aAppend
set_option maxHeartbeats 16000000 in
theorem nodeChanged_2 : Sound Tryz.prog 89 (sNC fun ch z => z ≠ 0 ∧ ch = 2) := by
  refine sound_of Tryz.func89 rfl (enters_of Tryz.func89 (by kernel_rfl) (by kernel_rfl)) ?_
  rintro ⟨c, d, xss, ns, ss, ch, q⟩ ⟨⟨hX, hq⟩, hc⟩
  have hX : ExI xss ns ss := hX
  have hq : q < ns.length := hq
  have hmax : maxLen = 9223372036854775807 := rfl
  have hz : pcN (ns.getD q default).op ≠ 0 := hc.1
  have h2 : 2 ≤ (ns.getD q default).op := by
    have hop := hX.op hq
    have hpc := pcN_cases (ns.getD q default).op
    omega
  obtain ⟨ha, hb⟩ := hX.ab hq h2
  have hsl := hX.len
  have pk := hX.c2pre hq h2
  have hc : ch = 2 := hc.2
  subst hc
  have hM : cX ns ss 2 q = _ := cX_2 hz
  conv => whnf
  repeat' (first
    | ((first | refine turnChanged_call pk ?_ | refine plan_in (id := 14) [0, 1, 2, 3, 4, 5, 6, 7, 8, 9, 10] (by kernel_rfl) (by kernel_rfl) ?_ | refine aIf_t ?_ | refine aIf_f ?_ | refine aGet_in rfl ?_ | refine And.intro (by omega) ?_ | refine load_same ?_ | refine And.intro (Nat.le_of_ble_eq_true rfl) ?_ | refine callG_t ?_ | refine append_same ?_ | refine part_nd_n (by omega) ?_ | refine part_nd (by omega) ?_ | refine partCount_call trivial ?_ | refine takeN_in ?_ | refine And.intro (pureL_ints _ _) ?_ | refine set_force ?_ | refine And.intro (by kernel_rfl) ?_); conv => whnf) | (refine aIf_dec (fun _ => ?_) (fun _ => ?_) <;> conv => whnf))
  all_goals (first | (exfalso; omega) | contradiction | skip)
  all_goals exact retNB (congrArg (Option.getD · default) hM) (congrArg Option.isSome hM) rfl rfl rfl
set_option maxHeartbeats 16000000 in
theorem nodeChanged_3 : Sound Tryz.prog 89 (sNC fun ch z => z ≠ 0 ∧ ch = 3) := by
  refine sound_of Tryz.func89 rfl (enters_of Tryz.func89 (by kernel_rfl) (by kernel_rfl)) ?_
  rintro ⟨c, d, xss, ns, ss, ch, q⟩ ⟨⟨hX, hq⟩, hc⟩
  have hX : ExI xss ns ss := hX
  have hq : q < ns.length := hq
  have hmax : maxLen = 9223372036854775807 := rfl
  have hz : pcN (ns.getD q default).op ≠ 0 := hc.1
  have h2 : 2 ≤ (ns.getD q default).op := by
    have hop := hX.op hq
    have hpc := pcN_cases (ns.getD q default).op
    omega
  obtain ⟨ha, hb⟩ := hX.ab hq h2
  have hsl := hX.len
  have pk : (ns.getD q default).l.length ≤ 1048576 := by have := hX.l3 hq; omega
  have hc : ch = 3 := hc.2
  subst hc
  have hM : cX ns ss 3 q = _ := cX_3 hz
  conv => whnf
  repeat' (first
    | ((first | refine foldChanged_call pk ?_ | refine plan_in (id := 14) [0, 1, 2, 3, 4, 5, 6, 7, 8, 9, 10] (by kernel_rfl) (by kernel_rfl) ?_ | refine aIf_t ?_ | refine aIf_f ?_ | refine aGet_in rfl ?_ | refine And.intro (by omega) ?_ | refine load_same ?_ | refine And.intro (Nat.le_of_ble_eq_true rfl) ?_ | refine callG_t ?_ | refine append_same ?_ | refine part_nd_n (by omega) ?_ | refine part_nd (by omega) ?_ | refine partCount_call trivial ?_ | refine takeN_in ?_ | refine And.intro (pureL_ints _ _) ?_ | refine set_force ?_ | refine And.intro (by kernel_rfl) ?_); conv => whnf) | (refine aIf_dec (fun _ => ?_) (fun _ => ?_) <;> conv => whnf))
  all_goals (first | (exfalso; omega) | contradiction | skip)
  all_goals exact retNB (congrArg (Option.getD · default) hM) (congrArg Option.isSome hM) rfl rfl rfl
end Go.Proofs.YtjmdhfjemaoebaaGreat
namespace Go.Proofs.YtjmdhfjemaoebaaGreat
set_option maxRecDepth 20000
open Go.RowKit Go.Am
set_option linter.unusedSimpArgs false
attribute [local irreducible] aPlan aGet aIf aLoop aCall RetB NextB CallB CallG aCut aSet aAppend
set_option maxHeartbeats 8000000 in
theorem signChanged_sound : Sound Tryz.prog 136 (fnNB (ι := Nat × Nd × Nat × Nd × Nat × Nd) 3 (fun | (c, x, d, a, e, b) => [.agg [.int .i64 x.op, .int .i64 x.a, .int .i64 x.b, .sl c x.l.length (x.l.map (.int .i64))], .agg [.int .i64 a.op, .int .i64 a.a, .int .i64 a.b, .sl d a.l.length (a.l.map (.int .i64))], .agg [.int .i64 b.op, .int .i64 b.a, .int .i64 b.b, .sl e b.l.length (b.l.map (.int .i64))]]) (fun _ => True) (fun | (_, x, _, a, _, b) => c5 x a b)) := by
  refine sound_of Tryz.func136 rfl (enters_of Tryz.func136 (by kernel_rfl) (by kernel_rfl)) ?_
  rintro ⟨c, x, d, a, e, b⟩ -
  by_cases h : b.op = 6
  · by_cases h2 : x.op = 2
    · have hM : c5 x a b = some ⟨3, x.a, b.a, []⟩ := if_pos ⟨h2, h⟩
      conv => whnf
      repeat' (first
        | ((first | refine aGet_in rfl ?_ | refine And.intro (by omega) ?_ | refine And.intro rfl (And.intro (List.cons_ne_nil _ _) ?_) | refine And.intro (Nat.le_of_ble_eq_true rfl) ?_ | refine append_same ?_ | refine takeN_in ?_ | refine set_force ?_ | refine And.intro (by kernel_rfl) ?_); conv => whnf) | refine aIf_not ?_
        | (refine aIf_dec (fun _ => ?_) (fun _ => ?_) <;> conv => whnf))
      all_goals (first | (exfalso; omega) | contradiction | skip)
      exact retNB_t hM rfl rfl rfl
    · by_cases h3 : x.op = 3
      · have hM : c5 x a b = some ⟨2, x.a, b.a, []⟩ := by unfold c5; rw [if_neg (by omega), if_pos ⟨h3, h⟩]
        conv => whnf
        repeat' (first
          | ((first | refine aGet_in rfl ?_ | refine And.intro (by omega) ?_ | refine And.intro rfl (And.intro (List.cons_ne_nil _ _) ?_) | refine And.intro (Nat.le_of_ble_eq_true rfl) ?_ | refine append_same ?_ | refine takeN_in ?_ | refine set_force ?_ | refine And.intro (by kernel_rfl) ?_); conv => whnf) | refine aIf_not ?_
          | (refine aIf_dec (fun _ => ?_) (fun _ => ?_) <;> conv => whnf))
        all_goals (first | (exfalso; omega) | contradiction | skip)
        exact retNB_t hM rfl rfl rfl
      · by_cases h4 : x.op = 4 ∧ a.op = 6
        · have hM : c5 x a b = some ⟨4, a.a, b.a, []⟩ := by unfold c5; rw [if_neg (by omega), if_neg (by omega), if_pos ⟨h4.1, h4.2, h⟩]
          conv => whnf
          repeat' (first
            | ((first | refine aGet_in rfl ?_ | refine And.intro (by omega) ?_ | refine And.intro rfl (And.intro (List.cons_ne_nil _ _) ?_) | refine And.intro (Nat.le_of_ble_eq_true rfl) ?_ | refine append_same ?_ | refine takeN_in ?_ | refine set_force ?_ | refine And.intro (by kernel_rfl) ?_); conv => whnf) | refine aIf_not ?_
            | (refine aIf_dec (fun _ => ?_) (fun _ => ?_) <;> conv => whnf))
          all_goals (first | (exfalso; omega) | contradiction | skip)
          exact retNB_t hM rfl rfl rfl
        · have hM : c5 x a b = none := by unfold c5; rw [if_neg (by omega), if_neg (by omega), if_neg (by omega)]
          conv => whnf
          repeat' (first
            | ((first | refine aGet_in rfl ?_ | refine And.intro (by omega) ?_ | refine And.intro rfl (And.intro (List.cons_ne_nil _ _) ?_) | refine And.intro (Nat.le_of_ble_eq_true rfl) ?_ | refine append_same ?_ | refine takeN_in ?_ | refine set_force ?_ | refine And.intro (by kernel_rfl) ?_); conv => whnf) | refine aIf_not ?_
            | (refine aIf_dec (fun _ => ?_) (fun _ => ?_) <;> conv => whnf))
          all_goals (first | (exfalso; omega) | contradiction | skip)
          all_goals exact retNB_f hM rfl
  · have hM : c5 x a b = none := by unfold c5; rw [if_neg (by omega), if_neg (by omega), if_neg (by omega)]
    conv => whnf
    repeat' (first
      | ((first | refine aGet_in rfl ?_ | refine And.intro (by omega) ?_ | refine And.intro rfl (And.intro (List.cons_ne_nil _ _) ?_) | refine And.intro (Nat.le_of_ble_eq_true rfl) ?_ | refine append_same ?_ | refine takeN_in ?_ | refine set_force ?_ | refine And.intro (by kernel_rfl) ?_); conv => whnf) | refine aIf_not ?_
      | (refine aIf_dec (fun _ => ?_) (fun _ => ?_) <;> conv => whnf))
    all_goals (first | (exfalso; omega) | contradiction | skip)
    all_goals exact retNB_f hM rfl
theorem signChanged_call {c d e : Nat} {x a b : Nd} {env : List AV} {rows : List Row} {ctr low : Nat} {k : AV → St → Prop} (hpre : True) (h : k (.tup [.agg [.int .i64 ((c5 x a b).getD default).op, .int .i64 ((c5 x a b).getD default).a, .int .i64 ((c5 x a b).getD default).b, .ref rows.length ctr 0 ((c5 x a b).getD default).l.length], .bool (c5 x a b).isSome]) ⟨env, rows ++ [⟨ctr, 3, 1, ((c5 x a b).getD default).l.map (.int .i64)⟩], ctr + 1, low⟩) :
    CallB Tryz.prog 136 ⟨env, rows, ctr, low⟩ [.agg [.int .i64 x.op, .int .i64 x.a, .int .i64 x.b, .sl c x.l.length (x.l.map (.int .i64))], .agg [.int .i64 a.op, .int .i64 a.a, .int .i64 a.b, .sl d a.l.length (a.l.map (.int .i64))], .agg [.int .i64 b.op, .int .i64 b.a, .int .i64 b.b, .sl e b.l.length (b.l.map (.int .i64))]] k := callNB_in signChanged_sound (c, x, d, a, e, b) hpre h
end Go.Proofs.YtjmdhfjemaoebaaGreat
namespace Go.Proofs.YtjmdhfjemaoebaaGreat
set_option maxRecDepth 20000
open Go.RowKit Go.Am
set_option linter.unusedSimpArgs false
attribute [local irreducible] aPlan aGet aIf aLoop aCall RetB NextB CallB CallG aCut aSet aAppend
set_option maxHeartbeats 16000000 in
theorem nodeChanged_4 : Sound Tryz.prog 89 (sNC fun ch z => z ≠ 0 ∧ ch = 4) := by
  refine sound_of Tryz.func89 rfl (enters_of Tryz.func89 (by kernel_rfl) (by kernel_rfl)) ?_
  rintro ⟨c, d, xss, ns, ss, ch, q⟩ ⟨⟨hX, hq⟩, hc⟩
  have hX : ExI xss ns ss := hX
  have hq : q < ns.length := hq
  have hmax : maxLen = 9223372036854775807 := rfl
  have hz : pcN (ns.getD q default).op ≠ 0 := hc.1
  have h2 : 2 ≤ (ns.getD q default).op := by
    have hop := hX.op hq
    have hpc := pcN_cases (ns.getD q default).op
    omega
  obtain ⟨ha, hb⟩ := hX.ab hq h2
  have hsl := hX.len
  have pk : (ss.getD q []).length ≤ 1048576 := by have := ok_len3 (hX.shp hq); omega
  have hc : ch = 4 := hc.2
  subst hc
  have hM : cX ns ss 4 q = _ := cX_4 hz
  conv => whnf
  repeat' (first
    | ((first | refine negChanged_call pk ?_ | refine plan_in (id := 14) [0, 1, 2, 3, 4, 5, 6, 7, 8, 9, 10] (by kernel_rfl) (by kernel_rfl) ?_ | refine aIf_t ?_ | refine aIf_f ?_ | refine aGet_in rfl ?_ | refine And.intro (by omega) ?_ | refine load_same ?_ | refine And.intro (Nat.le_of_ble_eq_true rfl) ?_ | refine callG_t ?_ | refine append_same ?_ | refine get_ii_n (by omega) ?_ | refine part_nd_n (by omega) ?_ | refine part_nd (by omega) ?_ | refine partCount_call trivial ?_ | refine takeN_in ?_ | refine And.intro (pureL_ints _ _) ?_ | refine set_force ?_ | refine And.intro (by kernel_rfl) ?_); conv => whnf) | (refine aIf_dec (fun _ => ?_) (fun _ => ?_) <;> conv => whnf))
  all_goals (first | (exfalso; omega) | contradiction | skip)
  all_goals exact retNB (congrArg (Option.getD · default) hM) (congrArg Option.isSome hM) rfl rfl rfl
set_option maxHeartbeats 16000000 in
theorem nodeChanged_5 : Sound Tryz.prog 89 (sNC fun ch z => z ≠ 0 ∧ ch = 5) := by
  refine sound_of Tryz.func89 rfl (enters_of Tryz.func89 (by kernel_rfl) (by kernel_rfl)) ?_
  rintro ⟨c, d, xss, ns, ss, ch, q⟩ ⟨⟨hX, hq⟩, hc⟩
  have hX : ExI xss ns ss := hX
  have hq : q < ns.length := hq
  have hmax : maxLen = 9223372036854775807 := rfl
  have hz : pcN (ns.getD q default).op ≠ 0 := hc.1
  have h2 : 2 ≤ (ns.getD q default).op := by
    have hop := hX.op hq
    have hpc := pcN_cases (ns.getD q default).op
    omega
  obtain ⟨ha, hb⟩ := hX.ab hq h2
  have hsl := hX.len
  have pk : True := trivial
  have hc : ch = 5 := hc.2
  subst hc
  have hM : cX ns ss 5 q = _ := cX_5 hz
  conv => whnf
  repeat' (first
    | ((first | refine signChanged_call pk ?_ | refine plan_in (id := 14) [0, 1, 2, 3, 4, 5, 6, 7, 8, 9, 10] (by kernel_rfl) (by kernel_rfl) ?_ | refine aIf_t ?_ | refine aIf_f ?_ | refine aGet_in rfl ?_ | refine And.intro (by omega) ?_ | refine load_same ?_ | refine And.intro (Nat.le_of_ble_eq_true rfl) ?_ | refine callG_t ?_ | refine append_same ?_ | refine part_nd_n (by omega) ?_ | refine part_nd (by omega) ?_ | refine partCount_call trivial ?_ | refine takeN_in ?_ | refine And.intro (pureL_ints _ _) ?_ | refine set_force ?_ | refine And.intro (by kernel_rfl) ?_); conv => whnf) | (refine aIf_dec (fun _ => ?_) (fun _ => ?_) <;> conv => whnf))
  all_goals (first | (exfalso; omega) | contradiction | skip)
  all_goals exact retNB (congrArg (Option.getD · default) hM) (congrArg Option.isSome hM) rfl rfl rfl
end Go.Proofs.YtjmdhfjemaoebaaGreat
