import Derived.Test.YtjmdhfjemaoebaaGreatM0x31
import Derived.Test.YtjmdhfjemaoebaaGreatM0x34
namespace Go.Proofs.YtjmdhfjemaoebaaGreat
set_option maxRecDepth 20000
open Go.RowKit Go.Am
set_option linter.unusedSimpArgs false
def fsG (ns : List Nd) (y : Nd) (k : Nat) : Nat → Nat
  | 0 => k
  | n + 1 => if ns.getD k default = y then k else fsG ns y (k + 1) n
def fsN (ns : List Nd) (p : Nat) : Nat := fsG ns (ns.getD p default) 0 p
theorem fsG_t {ns : List Nd} {y : Nd} {k p : Nat} (hk : k < p) (h : ns.getD k default = y) : fsG ns y k (p - k) = k := by
  obtain ⟨m, hm⟩ : ∃ m, p - k = m + 1 := ⟨p - k - 1, by omega⟩
  rw [hm]; exact if_pos h
theorem fsG_f {ns : List Nd} {y : Nd} {k p : Nat} (hk : k < p) (h : ¬ ns.getD k default = y) : fsG ns y k (p - k) = fsG ns y (k + 1) (p - (k + 1)) := by
  obtain ⟨m, hm⟩ : ∃ m, p - k = m + 1 := ⟨p - k - 1, by omega⟩
  have hm' : p - (k + 1) = m := by omega
  rw [hm, hm']; exact if_neg h
theorem fsG_le (ns : List Nd) (y : Nd) : ∀ (n k : Nat), fsG ns y k n ≤ k + n
  | 0, k => Nat.le_refl _
  | n + 1, k => by
    unfold fsG
    split
    · omega
    · have := fsG_le ns y n (k + 1); omega
theorem fsN_le (ns : List Nd) (p : Nat) : fsN ns p ≤ p := by have := fsG_le ns (ns.getD p default) p 0; unfold fsN; omega
abbrev nA (ns : List Nd) (x : Nd) : Nd := ns.getD x.a.toNat default
abbrev nB (ns : List Nd) (x : Nd) : Nd := ns.getD x.b.toNat default
def c1 (ns : List Nd) (x : Nd) : Option Nd := if (fsN ns x.a.toNat : Int) = x.a ∧ (fsN ns x.b.toNat : Int) = x.b then none else some ⟨x.op, fsN ns x.a.toNat, fsN ns x.b.toNat, x.l⟩
def c2 (x a : Nd) : Option Nd := if x.op = 8 ∧ a.op = 8 then some ⟨8, a.a, 0, turned a.l x.l⟩ else none
def c3 (x a : Nd) : Option Nd := if x.op = 9 ∧ a.op = 9 then some ⟨9, a.a, 0, x.l⟩ else none
def c4 (x a : Nd) (sh : List Int) : Option Nd := if x.op = 6 ∧ a.op = 6 then some ⟨9, a.a, 0, sh⟩ else none
def c5 (x a b : Nd) : Option Nd := if x.op = 2 ∧ b.op = 6 then some ⟨3, x.a, b.a, []⟩ else if x.op = 3 ∧ b.op = 6 then some ⟨2, x.a, b.a, []⟩ else if x.op = 4 ∧ a.op = 6 ∧ b.op = 6 then some ⟨4, a.a, b.a, []⟩ else none
def c6P (x a : Nd) : Prop := x.op = 10 ∧ a.op = 10 ∧ x.l.getD (Int.toNat 0) 0 = a.l.getD (Int.toNat 0) 0
instance (x a : Nd) : Decidable (c6P x a) := by unfold c6P; infer_instance
def c6 (x a : Nd) : Option Nd := if c6P x a then some ⟨10, a.a, 0, [x.l.getD (Int.toNat 0) 0, IntKind.i64.wrap (a.l.getD (Int.toNat 1) 0 + x.l.getD (Int.toNat 1) 0), x.l.getD (Int.toNat 2) 0]⟩ else none
def c7P (x a : Nd) : Prop := x.op = 10 ∧ a.op = 11 ∧ x.l.getD (Int.toNat 0) 0 = a.l.getD (Int.toNat 0) 0
instance (x a : Nd) : Decidable (c7P x a) := by unfold c7P; infer_instance
def c7F (x a : Nd) (ss : List (List Int)) : Int := (ss.getD a.a.toNat []).getD (x.l.getD (Int.toNat 0) 0).toNat 0
def c7 (x a : Nd) (ss : List (List Int)) : Option Nd :=
  if c7P x a then
    if c7F x a ss ≤ x.l.getD (Int.toNat 1) 0 then some ⟨10, a.b, 0, [x.l.getD (Int.toNat 0) 0, IntKind.i64.wrap (x.l.getD (Int.toNat 1) 0 - c7F x a ss), x.l.getD (Int.toNat 2) 0]⟩
    else if x.l.getD (Int.toNat 1) 0 + x.l.getD (Int.toNat 2) 0 ≤ c7F x a ss then some ⟨10, a.a, 0, [x.l.getD (Int.toNat 0) 0, x.l.getD (Int.toNat 1) 0, x.l.getD (Int.toNat 2) 0]⟩ else none
  else none
def c8 (x : Nd) : Option Nd := if (x.op = 2 ∨ x.op = 4 ∨ x.op = 5) ∧ x.b < x.a then some ⟨x.op, x.b, x.a, []⟩ else none
def cX (ns : List Nd) (ss : List (List Int)) (ch : Int) (p : Nat) : Option Nd :=
  if pcN (ns.getD p default).op = 0 then none
  else if ch = 1 then c1 ns (ns.getD p default)
  else if ch = 2 then c2 (ns.getD p default) (nA ns (ns.getD p default))
  else if ch = 3 then c3 (ns.getD p default) (nA ns (ns.getD p default))
  else if ch = 4 then c4 (ns.getD p default) (nA ns (ns.getD p default)) (ss.getD p [])
  else if ch = 5 then c5 (ns.getD p default) (nA ns (ns.getD p default)) (nB ns (ns.getD p default))
  else if ch = 6 then c6 (ns.getD p default) (nA ns (ns.getD p default))
  else if ch = 7 then c7 (ns.getD p default) (nA ns (ns.getD p default)) ss
  else if ch = 8 then c8 (ns.getD p default)
  else none
theorem getD_app1 {α : Type} {d : α} {s t : List α} {j : Nat} (h : j < s.length) : (s ++ t).getD j d = s.getD j d := by
  simp [List.getD, List.getElem?_append_left h]
theorem getD_app2 {α : Type} {d x : α} {s : List α} {j : Nat} (h : j = s.length) : (s ++ [x]).getD j d = x := by
  subst h; simp [List.getD]
theorem kOk_ext {x : Nd} {ss ss' : List (List Int)} (ha : 2 ≤ x.op → shA x ss' = shA x ss) (hb : ((2 ≤ x.op ∧ x.op ≤ 5) ∨ 11 ≤ x.op) → shB x ss' = shB x ss) (h : kOk x ss) : kOk x ss' := by
  unfold kOk at h ⊢
  by_cases h1 : x.op ≤ 1
  · exact .inl h1
  · have ea := ha (by omega)
    by_cases h2 : (2 ≤ x.op ∧ x.op ≤ 5) ∨ 11 ≤ x.op
    · rw [ea, hb h2]; exact h
    · rw [ea]
      rcases h with h | h | h | h | h | h | h | h | h
      · exact .inl h
      · exact .inr (.inl h)
      · exact absurd (.inl ⟨h.1, h.2.1⟩) h2
      · exact .inr (.inr (.inr (.inl h)))
      · exact .inr (.inr (.inr (.inr (.inl h))))
      · exact .inr (.inr (.inr (.inr (.inr (.inl h)))))
      · exact .inr (.inr (.inr (.inr (.inr (.inr (.inl h))))))
      · exact absurd (.inr (by omega)) h2
      · exact absurd (.inr (by omega)) h2
theorem kL_ext {x : Nd} {ss ss' ins : List (List Int)} (ha : 2 ≤ x.op → shA x ss' = shA x ss) (hb : ((2 ≤ x.op ∧ x.op ≤ 5) ∨ 11 ≤ x.op) → shB x ss' = shB x ss) (hop : 0 ≤ x.op) : kL x ss' ins = kL x ss ins := by
  unfold kL
  by_cases h0 : x.op = 0
  · rw [if_pos h0, if_pos h0]
  · by_cases h1 : x.op = 1
    · rw [if_neg h0, if_neg h0, if_pos h1, if_pos h1]
    · have ea := ha (by omega)
      by_cases h2 : (2 ≤ x.op ∧ x.op ≤ 5) ∨ 11 ≤ x.op
      · rw [ea, hb h2]
      · have n11 : ¬ x.op = 11 := by omega
        have n12 : ¬ x.op = 12 := by omega
        rw [ea]
        repeat' (first | rw [if_neg h0] | rw [if_neg h1] | rw [if_neg n11] | rw [if_neg n12])
        by_cases h6 : x.op = 6
        · rw [if_pos h6, if_pos h6]
        · by_cases h7 : x.op = 7
          · rw [if_neg h6, if_neg h6, if_pos h7, if_pos h7]
          · by_cases h8 : x.op = 8
            · rw [if_neg h6, if_neg h6, if_neg h7, if_neg h7, if_pos h8, if_pos h8]
            · by_cases h9 : x.op = 9
              · rw [if_neg h6, if_neg h6, if_neg h7, if_neg h7, if_neg h8, if_neg h8, if_pos h9, if_pos h9]
              · have h10 : x.op = 10 := by omega
                rw [if_neg h6, if_neg h6, if_neg h7, if_neg h7, if_neg h8, if_neg h8, if_neg h9, if_neg h9, if_pos h10, if_pos h10]
theorem kL_8 {x : Nd} {ss ins : List (List Int)} (h : x.op = 8) : kL x ss ins = tsL (shA x ss) x.l := by simp [kL, h]
theorem kL_9 {x : Nd} {ss ins : List (List Int)} (h : x.op = 9) : kL x ss ins = x.l := by simp [kL, h]
theorem kL_6 {x : Nd} {ss ins : List (List Int)} (h : x.op = 6) : kL x ss ins = shA x ss := by simp [kL, h]
theorem shTo_at {ins : List (List Int)} {ns : List Nd} : ∀ {k : Nat} {ss : List (List Int)}, shTo ins ns k = some ss → ∀ p, p < k → formP (ns.getD p default) p ins.length ∧ kOk (ns.getD p default) ss ∧ ss.getD p [] = kL (ns.getD p default) ss ins
  | 0, ss, _, p, hp => absurd hp (Nat.not_lt_zero _)
  | k + 1, ss, h, p, hp => by
    rw [shTo] at h
    cases e : shTo ins ns k with
    | none => rw [e] at h; cases h
    | some s =>
      rw [e] at h
      have h : (if nodeP ins ns s k then some (s ++ [kL (ns.getD k default) s ins]) else none) = some ss := h
      have hl := shTo_len e
      split at h
      · rename_i hP
        cases h
        have key : ∀ q, q ≤ k → formP (ns.getD q default) q ins.length → (2 ≤ (ns.getD q default).op → shA (ns.getD q default) (s ++ [kL (ns.getD k default) s ins]) = shA (ns.getD q default) s) ∧
            (((2 ≤ (ns.getD q default).op ∧ (ns.getD q default).op ≤ 5) ∨ 11 ≤ (ns.getD q default).op) → shB (ns.getD q default) (s ++ [kL (ns.getD k default) s ins]) = shB (ns.getD q default) s) := fun q hq hf => by
          obtain ⟨f1, f2, f3, f4, f5, f6, f7⟩ := hf
          exact ⟨fun h2 => getD_app1 (by have := f6 h2; omega), fun h2 => getD_app1 (by have := f7 h2; omega)⟩
        by_cases hpk : p < k
        · obtain ⟨a1, a2, a3⟩ := shTo_at e p hpk
          obtain ⟨b1, b2⟩ := key p (by omega) a1
          refine ⟨a1, kOk_ext b1 b2 a2, ?_⟩
          rw [getD_app1 (by omega), a3]
          exact (kL_ext b1 b2 a1.1.1).symm
        · have hpe : p = k := by omega
          subst hpe
          obtain ⟨b1, b2⟩ := key p (Nat.le_refl _) hP.1
          exact ⟨hP.1, kOk_ext b1 b2 hP.2, by rw [getD_app2 (by omega)]; exact (kL_ext b1 b2 hP.1.1.1).symm⟩
      · cases h
structure ExI (xss : List (List Int)) (ns : List Nd) (ss : List (List Int)) : Prop where
  n1 : 1 ≤ ns.length
  n12 : ns.length ≤ 12
  ins : insOk xss
  ok : shM xss ns = (ss, true)
  len : ss.length = ns.length
  sh : allOk ss
  form : ∀ p, p < ns.length → formP (ns.getD p default) p xss.length
  k : ∀ p, p < ns.length → kOk (ns.getD p default) ss
  l : ∀ p, p < ns.length → ss.getD p [] = kL (ns.getD p default) ss xss
theorem exI_of {xss : List (List Int)} {ns : List Nd} (h : (shM xss ns).2 = true) : ExI xss ns (shM xss ns).1 := by
  by_cases hI : insOk xss ∧ 1 ≤ ns.length ∧ ns.length ≤ 12
  · cases e : shTo xss ns ns.length with
    | none => rw [shM_n e] at h; cases h
    | some ss =>
      rw [shM_t hI e]
      exact ⟨hI.2.1, hI.2.2, hI.1, shM_t hI e, shTo_len e, shTo_ok hI.1.2 e, fun p hp => (shTo_at e p hp).1, fun p hp => (shTo_at e p hp).2.1, fun p hp => (shTo_at e p hp).2.2⟩
  · rw [shM_f hI] at h; cases h
theorem ok_len3 {zs : List Int} (h : shapeOk zs = true) : zs.length ≤ 3 := ((shapeOk_iff _).1 h).1
theorem ok_size {zs : List Int} {j : Nat} (h : shapeOk zs = true) (hj : j < zs.length) : 1 ≤ zs.getD j 0 ∧ zs.getD j 0 ≤ 4 := by
  have := ((shapeOk_iff _).1 h).2 j hj
  simpa [okSize] using this
theorem ExI.shp {xss ss : List (List Int)} {ns : List Nd} (h : ExI xss ns ss) {p : Nat} (hp : p < ns.length) : shapeOk (ss.getD p []) = true := h.sh p (by have := h.len; omega)
theorem ExI.a {xss ss : List (List Int)} {ns : List Nd} (h : ExI xss ns ss) {p : Nat} (hp : p < ns.length) (h2 : 2 ≤ (ns.getD p default).op) : 0 ≤ (ns.getD p default).a ∧ (ns.getD p default).a < p := (h.form p hp).2.2.2.2.2.1 h2
theorem ExI.b {xss ss : List (List Int)} {ns : List Nd} (h : ExI xss ns ss) {p : Nat} (hp : p < ns.length) (h2 : (2 ≤ (ns.getD p default).op ∧ (ns.getD p default).op ≤ 5) ∨ 11 ≤ (ns.getD p default).op) : 0 ≤ (ns.getD p default).b ∧ (ns.getD p default).b < p := (h.form p hp).2.2.2.2.2.2 h2
theorem ExI.b0 {xss ss : List (List Int)} {ns : List Nd} (h : ExI xss ns ss) {p : Nat} (hp : p < ns.length) (h2 : (ns.getD p default).op ≤ 1 ∨ (6 ≤ (ns.getD p default).op ∧ (ns.getD p default).op ≤ 10)) : (ns.getD p default).b = 0 := (h.form p hp).2.2.1 h2
theorem ExI.op {xss ss : List (List Int)} {ns : List Nd} (h : ExI xss ns ss) {p : Nat} (hp : p < ns.length) : 0 ≤ (ns.getD p default).op ∧ (ns.getD p default).op ≤ 12 := (h.form p hp).1
theorem ExI.ls {xss ss : List (List Int)} {ns : List Nd} (h : ExI xss ns ss) {p : Nat} (hp : p < ns.length) : lsP (ns.getD p default) := (h.form p hp).2.1
theorem ExI.ab {xss ss : List (List Int)} {ns : List Nd} (h : ExI xss ns ss) {p : Nat} (hp : p < ns.length) (h2 : 2 ≤ (ns.getD p default).op) : (0 ≤ (ns.getD p default).a ∧ (ns.getD p default).a < p) ∧ (0 ≤ (ns.getD p default).b ∧ (ns.getD p default).b < p) := by
  have ha := h.a hp h2
  refine ⟨ha, ?_⟩
  by_cases h3 : (2 ≤ (ns.getD p default).op ∧ (ns.getD p default).op ≤ 5) ∨ 11 ≤ (ns.getD p default).op
  · exact h.b hp h3
  · have := h.b0 hp (by omega); omega
theorem ExI.turn {xss ss : List (List Int)} {ns : List Nd} (h : ExI xss ns ss) {p : Nat} (hp : p < ns.length) (h8 : (ns.getD p default).op = 8) : (shA (ns.getD p default) ss).length ≤ 3 ∧ ((ns.getD p default).l.length = (shA (ns.getD p default) ss).length ∧ ∀ j, j < (ns.getD p default).l.length → 0 ≤ (ns.getD p default).l.getD j 0 ∧ (ns.getD p default).l.getD j 0 < (shA (ns.getD p default) ss).length) ∧ ss.getD p [] = turned (shA (ns.getD p default) ss) (ns.getD p default).l := by
  have hk := h.k p hp
  unfold kOk at hk
  have ht : tsOk (shA (ns.getD p default) ss) (ns.getD p default).l = true := by
    rcases hk with hk | hk | hk | hk | hk | hk | hk | hk | hk
    · omega
    · omega
    · omega
    · omega
    · exact hk.2
    all_goals omega
  have ht' := ht
  unfold tsOk at ht'
  rw [Bool.and_eq_true] at ht'
  obtain ⟨i1, i2⟩ := turnOk_in ht'.2
  refine ⟨by omega, ⟨by omega, i2⟩, ?_⟩
  rw [h.l p hp]
  rw [kL_8 h8]; exact if_pos ht
theorem ExI.fold {xss ss : List (List Int)} {ns : List Nd} (h : ExI xss ns ss) {p : Nat} (hp : p < ns.length) (h9 : (ns.getD p default).op = 9) : ss.getD p [] = (ns.getD p default).l := by
  rw [h.l p hp, kL_9 h9]
theorem ExI.neg {xss ss : List (List Int)} {ns : List Nd} (h : ExI xss ns ss) {p : Nat} (hp : p < ns.length) (h6 : (ns.getD p default).op = 6) : ss.getD p [] = ss.getD (ns.getD p default).a.toNat [] := by
  rw [h.l p hp, kL_6 h6]
theorem ExI.cut {xss ss : List (List Int)} {ns : List Nd} (h : ExI xss ns ss) {p : Nat} (hp : p < ns.length) (h10 : (ns.getD p default).op = 10) : (ns.getD p default).l.length = 3 ∧ cshP (shA (ns.getD p default) ss) (ns.getD p default).l := by
  have hk := h.k p hp
  unfold kOk at hk
  refine ⟨by have := (h.ls hp).2.1 h10; omega, ?_⟩
  rcases hk with hk | hk | hk | hk | hk | hk | hk | hk | hk
  · omega
  · omega
  · omega
  · omega
  · omega
  · omega
  · exact hk.2
  all_goals omega
theorem ExI.bes {xss ss : List (List Int)} {ns : List Nd} (h : ExI xss ns ss) {p : Nat} (hp : p < ns.length) (h11 : (ns.getD p default).op = 11) : (ns.getD p default).l.length = 1 ∧ bshP (shA (ns.getD p default) ss) (shB (ns.getD p default) ss) ((ns.getD p default).l.getD (Int.toNat 0) 0) := by
  have hk := h.k p hp
  unfold kOk at hk
  refine ⟨by have := (h.ls hp).1 (.inr h11); omega, ?_⟩
  rcases hk with hk | hk | hk | hk | hk | hk | hk | hk | hk
  · omega
  · omega
  · omega
  · omega
  · omega
  · omega
  · omega
  · exact hk.2
  all_goals omega
theorem ExI.l3 {xss ss : List (List Int)} {ns : List Nd} (h : ExI xss ns ss) {p : Nat} (hp : p < ns.length) : (ns.getD p default).l.length ≤ 3 := by
  have hop := h.op hp
  have hls := h.ls hp
  unfold lsP at hls
  by_cases h8 : (ns.getD p default).op = 8
  · have := h.turn hp h8; omega
  · by_cases h9 : (ns.getD p default).op = 9
    · have e := h.fold hp h9
      have := ok_len3 (h.shp hp)
      rw [e] at this; exact this
    · omega
end Go.Proofs.YtjmdhfjemaoebaaGreat
namespace Go.Proofs.YtjmdhfjemaoebaaGreat
set_option maxRecDepth 20000
open Go.RowKit Go.Am
theorem neL_len {xss : List (List Int)} {ns : List Nd} (h : (shM xss ns).2 = true) : (neL xss ns).length = ns.length := by
  unfold neL; rw [if_pos h, neI_length]
end Go.Proofs.YtjmdhfjemaoebaaGreat
namespace Go.Proofs.YtjmdhfjemaoebaaGreat
set_option maxRecDepth 20000
open Go.RowKit Go.Am
set_option linter.unusedSimpArgs false
def clo (g : Nat) (x : Nd) : Nd := ⟨x.op, if pcN x.op ≠ 0 ∧ (g : Int) < x.a then IntKind.i64.wrap (x.a - 1) else x.a, if (g : Int) < x.b then IntKind.i64.wrap (x.b - 1) else x.b, x.l⟩
def dTo (ns : List Nd) (g : Nat) : Nat → List Nd
  | 0 => []
  | k + 1 => if k = g then dTo ns g k else dTo ns g k ++ [clo g (ns.getD k default)]
theorem dTo_n {ns : List Nd} {g k : Nat} (h : ¬ k = g) : dTo ns g (k + 1) = dTo ns g k ++ [clo g (ns.getD k default)] := if_neg h
theorem dTo_g {ns : List Nd} {g k : Nat} (h : k = g) : dTo ns g (k + 1) = dTo ns g k := if_pos h
theorem dTo_le (ns : List Nd) (g : Nat) : ∀ k, (dTo ns g k).length ≤ k
  | 0 => Nat.le_refl _
  | k + 1 => by
    have := dTo_le ns g k
    unfold dTo
    split
    · omega
    · rw [List.length_append, List.length_singleton]; omega
theorem dTo_len {ns : List Nd} {g : Nat} : ∀ k, g < k → (dTo ns g k).length = k - 1
  | 0, h => by omega
  | k + 1, h => by
    have hle : ∀ j, j ≤ g → (dTo ns g j).length = j := fun j => by
      induction j with
      | zero => intro _; rfl
      | succ j ih =>
        intro hj
        rw [dTo_n (by omega), List.length_append, List.length_singleton, ih (by omega)]
    by_cases e : k = g
    · rw [dTo_g e, hle k (by omega)]; omega
    · have := dTo_len (ns := ns) (g := g) k (by omega)
      rw [dTo_n e, List.length_append, List.length_singleton, this]; omega
def dropN (ns : List Nd) (g : Nat) : List Nd := dTo ns g ns.length
def partP (x : Nd) (g : Int) : Prop := (pcN x.op ≠ 0 ∧ x.a = g) ∨ (pcN x.op = 2 ∧ x.b = g)
instance (x : Nd) (g : Int) : Decidable (partP x g) := by unfold partP; infer_instance
theorem incAt_getD {us : List Int} {i : Int} {j : Nat} (hi : i.toNat < us.length) : (incAt us i).getD j 0 = if i.toNat = j then IntKind.i64.wrap (us.getD i.toNat 0 + 1) else us.getD j 0 := by
  unfold incAt; exact getD_setG hi
theorem us_of {ns : List Nd} (hn : ns.length ≤ 12) (hp : ∀ p, p < ns.length → pcN (ns.getD p default).op ≠ 0 → (0 ≤ (ns.getD p default).a ∧ (ns.getD p default).a < ns.length) ∧ 0 ≤ (ns.getD p default).b ∧ (ns.getD p default).b < ns.length) (g : Nat) (hg : g < ns.length) :
    ∀ k, k ≤ ns.length → (0 ≤ (usTo ns k).getD g 0 ∧ (usTo ns k).getD g 0 ≤ 2 * k) ∧ ((usTo ns k).getD g 0 = 0 ↔ ∀ j, j < k → ¬ partP (ns.getD j default) g)
  | 0, _ => by
    have e : (usTo ns 0).getD g 0 = 0 := by simp [usTo, List.getD, List.getElem?_replicate, hg]
    rw [e]
    exact ⟨by omega, ⟨fun _ j hj => absurd hj (Nat.not_lt_zero _), fun _ => rfl⟩⟩
  | k + 1, hk => by
    obtain ⟨h1, h2⟩ := us_of hn hp g hg k (by omega)
    have hl := usTo_length ns k
    have hpk := hp k (by omega)
    have hall : (∀ j, j < k + 1 → ¬ partP (ns.getD j default) g) ↔ (∀ j, j < k → ¬ partP (ns.getD j default) g) ∧ ¬ partP (ns.getD k default) g :=
      ⟨fun h => ⟨fun j hj => h j (by omega), h k (by omega)⟩, fun h j hj => (Nat.lt_succ_iff_lt_or_eq.1 hj).elim (h.1 j) (fun e => e ▸ h.2)⟩
    have hpc := pcN_cases (ns.getD k default).op
    have e0 : usTo ns (k + 1) = usN (usTo ns k) (ns.getD k default) := rfl
    rw [hall, ← h2, e0]
    by_cases c0 : pcN (ns.getD k default).op = 0
    · have e : usN (usTo ns k) (ns.getD k default) = usTo ns k := if_pos c0
      rw [e]
      have np : ¬ partP (ns.getD k default) g := fun h => h.elim (fun h => h.1 c0) (fun h => by omega)
      exact ⟨by omega, ⟨fun h => ⟨h, np⟩, fun h => h.1⟩⟩
    · obtain ⟨ha, hb⟩ := hpk c0
      have hal : (ns.getD k default).a.toNat < (usTo ns k).length := by omega
      by_cases c1 : pcN (ns.getD k default).op = 1
      · have e : usN (usTo ns k) (ns.getD k default) = incAt (usTo ns k) (ns.getD k default).a := by unfold usN; rw [if_neg c0, if_pos c1]
        rw [e, incAt_getD hal]
        by_cases eg : (ns.getD k default).a.toNat = g
        · rw [if_pos eg, eg]
          have hw : IntKind.i64.wrap ((usTo ns k).getD g 0 + 1) = (usTo ns k).getD g 0 + 1 := IntWalk.i64_in _ (by omega)
          rw [hw]
          have yp : partP (ns.getD k default) g := .inl ⟨c0, by omega⟩
          exact ⟨by omega, ⟨fun h => by omega, fun h => absurd yp h.2⟩⟩
        · rw [if_neg eg]
          have np : ¬ partP (ns.getD k default) g := fun h => h.elim (fun h => eg (by omega)) (fun h => by omega)
          exact ⟨by omega, ⟨fun h => ⟨h, np⟩, fun h => h.1⟩⟩
      · have c2 : pcN (ns.getD k default).op = 2 := by omega
        have e : usN (usTo ns k) (ns.getD k default) = incAt (incAt (usTo ns k) (ns.getD k default).a) (ns.getD k default).b := by unfold usN; rw [if_neg c0, if_neg c1]
        have hbl : (ns.getD k default).b.toNat < (incAt (usTo ns k) (ns.getD k default).a).length := by rw [incAt_length]; omega
        rw [e, incAt_getD hbl]
        have ea := incAt_getD (us := usTo ns k) (i := (ns.getD k default).a) (j := g) hal
        have hw : ∀ z : Int, 0 ≤ z → z ≤ 100 → IntKind.i64.wrap (z + 1) = z + 1 := fun z h1 h2 => IntWalk.i64_in _ (by omega)
        by_cases eb : (ns.getD k default).b.toNat = g
        · rw [if_pos eb, eb, ea]
          have yp : partP (ns.getD k default) g := .inr ⟨c2, by omega⟩
          by_cases eg : (ns.getD k default).a.toNat = g
          · rw [if_pos eg, eg, hw ((usTo ns k).getD g 0) (by omega) (by omega), hw ((usTo ns k).getD g 0 + 1) (by omega) (by omega)]
            exact ⟨by omega, ⟨fun h => by omega, fun h => absurd yp h.2⟩⟩
          · rw [if_neg eg, hw _ (by omega) (by omega)]
            exact ⟨by omega, ⟨fun h => by omega, fun h => absurd yp h.2⟩⟩
        · rw [if_neg eb, ea]
          by_cases eg : (ns.getD k default).a.toNat = g
          · rw [if_pos eg, eg, hw _ (by omega) (by omega)]
            have yp : partP (ns.getD k default) g := .inl ⟨c0, by omega⟩
            exact ⟨by omega, ⟨fun h => by omega, fun h => absurd yp h.2⟩⟩
          · rw [if_neg eg]
            have np : ¬ partP (ns.getD k default) g := fun h => h.elim (fun h => eg (by omega)) (fun h => eb (by omega))
            exact ⟨by omega, ⟨fun h => ⟨h, np⟩, fun h => h.1⟩⟩
theorem set_or {L : List Bool} {i g : Nat} (h : (L.set i true).getD g false = true) : i = g ∨ L.getD g false = true := by
  by_cases e : i = g
  · exact .inl e
  · right
    simp only [List.getD, List.getElem?_set_ne e] at h
    exact h
theorem set_keep {L : List Bool} {i g : Nat} (h : L.getD g false = true) : (L.set i true).getD g false = true := by
  simp only [List.getD, List.getElem?_set]
  by_cases e : i = g
  · subst e
    have : i < L.length := by
      rcases Nat.lt_or_ge i L.length with h1 | h1
      · exact h1
      · simp [List.getD, List.getElem?_eq_none h1] at h
    simp [this]
  · rw [if_neg e]; exact h
theorem neStep_of {bs : List Bool} {x : Nd} {g : Nat} (ha : pcN x.op ≠ 0 → 0 ≤ x.a) (hb : pcN x.op ≠ 0 → 0 ≤ x.b) : ∀ j : Nat, (j : Int) ≤ pcN x.op → (neStep bs x j).getD g false = true → bs.getD g false = true ∨ partP x g
  | 0, _, h => .inl h
  | j + 1, hj, h => by
    have hc := pcN_cases x.op
    rcases set_or h with e | e
    · right
      have hz : pcN x.op ≠ 0 := by omega
      have h1 := ha hz
      have h2 := hb hz
      match j, hj, e with
      | 0, _, e =>
        have e : x.a.toNat = g := e
        exact .inl ⟨hz, by omega⟩
      | 1, hj, e =>
        have e : x.b.toNat = g := e
        exact .inr ⟨by omega, by omega⟩
      | j + 2, hj, _ => omega
    · exact neStep_of ha hb j (by omega) e
theorem neStep_keep {bs : List Bool} {x : Nd} {g : Nat} (h : bs.getD g false = true) : ∀ j : Nat, (neStep bs x j).getD g false = true
  | 0 => h
  | j + 1 => set_keep (neStep_keep h j)
theorem ne_of {ns : List Nd} (hp : ∀ p, p < ns.length → pcN (ns.getD p default).op ≠ 0 → (0 ≤ (ns.getD p default).a ∧ (ns.getD p default).a < ns.length) ∧ 0 ≤ (ns.getD p default).b ∧ (ns.getD p default).b < ns.length) (hn : 1 ≤ ns.length) (g : Nat) :
    ∀ m, (neAt ns m).getD g false = true → g = ns.length - 1 ∨ ∃ j, j < ns.length ∧ partP (ns.getD j default) g
  | 0, h => by
    rcases set_or h with e | e
    · exact .inl e.symm
    · exfalso
      simp only [List.getD, List.getElem?_replicate] at e
      split at e <;> simp at e
  | m + 1, h => by
    unfold neAt at h
    split at h
    · have hq : ns.length - 1 - m < ns.length := by omega
      have hpc := pcN_cases (ns.getD (ns.length - 1 - m) default).op
      rcases neStep_of (fun hz => (hp _ hq hz).1.1) (fun hz => (hp _ hq hz).2.1) _ (by omega) h with h | h
      · exact ne_of hp hn g m h
      · exact .inr ⟨_, hq, h⟩
    · exact ne_of hp hn g m h
theorem ne_last {ns : List Nd} (hn : 1 ≤ ns.length) : ∀ m, (neAt ns m).getD (ns.length - 1) false = true
  | 0 => by
    have : ns.length - 1 < (List.replicate ns.length false).length := by simp; omega
    simp only [neAt, List.getD, List.getElem?_set_self this]; rfl
  | m + 1 => by
    unfold neAt
    split
    · exact neStep_keep (ne_last hn m) _
    · exact ne_last hn m
theorem ExI.parts {xss ss : List (List Int)} {ns : List Nd} (h : ExI xss ns ss) : ∀ p, p < ns.length → pcN (ns.getD p default).op ≠ 0 → (0 ≤ (ns.getD p default).a ∧ (ns.getD p default).a < ns.length) ∧ 0 ≤ (ns.getD p default).b ∧ (ns.getD p default).b < ns.length := fun p hp hz => by
  have hop := h.op hp
  have hpc := pcN_cases (ns.getD p default).op
  have := h.ab hp (by omega)
  omega
theorem ExI.ahead {xss ss : List (List Int)} {ns : List Nd} (h : ExI xss ns ss) {j g : Nat} (hj : j < ns.length) (hp : partP (ns.getD j default) g) : g < j := by
  have hop := h.op hj
  have hpc := pcN_cases (ns.getD j default).op
  rcases hp with ⟨h1, h2⟩ | ⟨h1, h2⟩
  · have := h.ab hj (by omega); omega
  · have := h.ab hj (by omega); omega
def belP (ns : List Nd) (g : Nat) : Prop := ∃ j, j < ns.length ∧ g < j ∧ partP (ns.getD j default) g
def drP (xss : List (List Int)) (ns : List Nd) (g : Nat) : Prop := (usL xss ns).getD g 0 = 0 ∧ g + 1 < (usL xss ns).length
instance (xss : List (List Int)) (ns : List Nd) (g : Nat) : Decidable (drP xss ns g) := by unfold drP; infer_instance
theorem drP_iff {xss : List (List Int)} {ns : List Nd} {g : Nat} (hM : (shM xss ns).2 = true) (hg : g < ns.length) : drP xss ns g ↔ (neL xss ns).getD g false = false ∧ ¬ belP ns g := by
  have h := exI_of hM
  have eu : usL xss ns = usTo ns ns.length := if_pos hM
  have en : neL xss ns = neI ns (-1) := if_pos hM
  have e1 : neI ns (-1) = neAt ns ns.length := by unfold neI; congr 1; omega
  have hu := (us_of h.n12 h.parts g hg ns.length (Nat.le_refl _)).2
  unfold drP
  rw [eu, en, e1, hu, usTo_length]
  constructor
  · rintro ⟨a1, a2⟩
    refine ⟨?_, fun ⟨j, b1, _, b3⟩ => a1 j b1 b3⟩
    cases e : (neAt ns ns.length).getD g false with
    | false => rfl
    | true =>
      rcases ne_of h.parts h.n1 g ns.length e with h1 | ⟨j, b1, b3⟩
      · omega
      · exact absurd b3 (a1 j b1)
  · rintro ⟨a1, a2⟩
    refine ⟨fun j hj hp => a2 ⟨j, hj, h.ahead hj hp, hp⟩, ?_⟩
    rcases Nat.lt_or_ge (g + 1) ns.length with h1 | h1
    · exact h1
    · have e : g = ns.length - 1 := by omega
      have := ne_last h.n1 ns.length
      rw [← e, a1] at this
      cases this
end Go.Proofs.YtjmdhfjemaoebaaGreat
namespace Go.Proofs.YtjmdhfjemaoebaaGreat
set_option maxRecDepth 20000
open Go.RowKit Go.Am
set_option linter.unusedSimpArgs false
attribute [local irreducible] aPlan aGet aIf aLoop aCall RetB NextB CallB CallG aCut aSet aAppend
def blG (ns : List Nd) (g : Nat) (k : Nat) : Nat → Bool
  | 0 => false
  | n + 1 => if partP (ns.getD k default) g then true else blG ns g (k + 1) n
theorem blG_t {ns : List Nd} {g k p : Nat} (hk : k < p) (h : partP (ns.getD k default) g) : blG ns g k (p - k) = true := by
  obtain ⟨m, hm⟩ : ∃ m, p - k = m + 1 := ⟨p - k - 1, by omega⟩
  rw [hm]; exact if_pos h
theorem blG_f {ns : List Nd} {g k p : Nat} (hk : k < p) (h : ¬ partP (ns.getD k default) g) : blG ns g k (p - k) = blG ns g (k + 1) (p - (k + 1)) := by
  obtain ⟨m, hm⟩ : ∃ m, p - k = m + 1 := ⟨p - k - 1, by omega⟩
  have hm' : p - (k + 1) = m := by omega
  rw [hm, hm']; exact if_neg h
theorem blG_iff (ns : List Nd) (g : Nat) : ∀ (n k : Nat), blG ns g k n = true ↔ ∃ j, k ≤ j ∧ j < k + n ∧ partP (ns.getD j default) g
  | 0, k => ⟨fun h => Bool.noConfusion h, fun ⟨j, h1, h2, _⟩ => by omega⟩
  | n + 1, k => by
    unfold blG
    split
    · rename_i h
      exact ⟨fun _ => ⟨k, Nat.le_refl _, by omega, h⟩, fun _ => rfl⟩
    · rename_i h
      rw [blG_iff ns g n (k + 1)]
      exact ⟨fun ⟨j, h1, h2, h3⟩ => ⟨j, by omega, by omega, h3⟩, fun ⟨j, h1, h2, h3⟩ => ⟨j, by
        rcases Nat.lt_or_ge k j with h4 | h4
        · omega
        · have : j = k := by omega
          subst this; exact absurd h3 h, by omega, h3⟩⟩
def blB (ns : List Nd) (g : Nat) : Bool := blG ns g (g + 1) (ns.length - (g + 1))
theorem blB_iff {ns : List Nd} {g : Nat} (hg : g < ns.length) : blB ns g = true ↔ belP ns g := by
  unfold blB belP
  rw [blG_iff]
  exact ⟨fun ⟨j, h1, h2, h3⟩ => ⟨j, by omega, by omega, h3⟩, fun ⟨j, h1, h2, h3⟩ => ⟨j, by omega, by omega, h3⟩⟩
theorem dr_bl {xss : List (List Int)} {ns : List Nd} {g : Nat} (hM : (shM xss ns).2 = true) (hg : g < ns.length) : decide (drP xss ns g) = (!(neL xss ns).getD g false && !blB ns g) := by
  refine Bool.eq_iff_iff.2 ?_
  rw [decide_eq_true_eq, drP_iff hM hg, ← blB_iff hg]
  simp
def sBelow : CSpec := fnS (ι := Nat × List (List Int) × List Nd × Nat) (fun | (c, xss, ns, g) => [.agg [.sl c xss.length (xss.map (slI c)), .sl c ns.length (ns.flatMap (ndC c))], .int .i64 g]) (fun | (_, xss, ns, g) => (shM xss ns).2 = true ∧ g < ns.length) (fun | (_, _, ns, g) => .bool (blB ns g))
set_option maxHeartbeats 8000000 in
theorem l6Below_sound : Sound Tryz.prog 79 sBelow := by
  refine sound_of Tryz.func79 rfl (enters_of Tryz.func79 (by kernel_rfl) (by kernel_rfl)) ?_
  rintro ⟨c, xss, ns, g⟩ hpre
  obtain ⟨hM, hg⟩ : (shM xss ns).2 = true ∧ g < ns.length := hpre
  have h12 := (exI_of hM).n12
  have hopA := fun (k : Nat) (hk : k < ns.length) => (exI_of hM).op hk
  clear hM
  have hmax : maxLen = 9223372036854775807 := rfl
  conv => whnf
  repeat' (first
    | ((first | refine And.intro rfl (And.intro (List.cons_ne_nil _ _) ?_) | refine append_same ?_); conv => whnf))
  refine loop_u (ι := Nat) [false, true, true, false, false, true, false, false, false, false, false, false, false, false, false, false, false, false, false, false, false, false, false, false, false, false, false, false, false, false, false, false, false, false, false, false, false, false, false, false, false, false, false, false, false, false] (fun k => [(5, .int .i64 k)]) (fun _ => []) (fun k => k ≤ ns.length ∧ blG ns g k (ns.length - k) = blB ns g) (fun k => ns.length - k) ((g + 1)) ⟨hg, rfl⟩ ?_ ?_
  · conv => whnf
    repeat' (first
      | exact trivial | exact rfl
      | exact pureL_ii _ _ | exact pureL_nd _ _
      | refine Or.inr ?_ | refine And.intro ?_ ?_
      | exact Nat.le_of_ble_eq_true rfl | exact int_eq (by rw [IntWalk.i64_in _ (by omega)] <;> omega))
  · rintro k ⟨hk, hi⟩
    have hk : k ≤ ns.length := hk
    by_cases hlt : k < ns.length
    · have hop := hopA k hlt
      clear hopA
      have hpc := pcN_cases (ns.getD k default).op
      by_cases c0 : pcN (ns.getD k default).op = 0
      · have t1 : ¬ (6 ≤ (ns.getD k default).op ∧ (ns.getD k default).op ≤ 10) := by omega
        have t2 : ¬ twoP3 (ns.getD k default).op := by unfold twoP3; omega
        have np : ¬ partP (ns.getD k default) g := fun h => h.elim (fun h => h.1 c0) (fun h => by omega)
        conv => whnf
        repeat' (first
          | ((first | refine aIf_t ?_ | refine aIf_f ?_ | refine fun (_ : _ ≤ maxLen) => ?_ | refine aGet_in rfl ?_ | refine And.intro (by omega) ?_ | refine And.intro (Nat.le_of_ble_eq_true rfl) ?_ | refine callG_t ?_ | refine append_same ?_ | refine part_nd_n (by omega) ?_ | refine l3Two_call trivial ?_ | refine l3One_call trivial ?_ | refine set_force ?_ | refine And.intro (by kernel_rfl) ?_); conv => whnf) | refine aIf_eqt ?_
          | refine aIf_eqf ?_ | (refine aIf_dec (fun _ => ?_) (fun _ => ?_) <;> conv => whnf))
        all_goals (first | (exfalso; omega) | contradiction | skip)
        refine next_u (k + 1) (show ns.length - (k + 1) < ns.length - k by omega) ⟨(by omega : k + 1 ≤ ns.length), (blG_f hlt np).symm.trans hi⟩ ?_
        conv => whnf
        repeat' (first
          | exact trivial | exact rfl
          | exact pureL_ii _ _ | exact pureL_nd _ _
          | refine Or.inr ?_ | refine And.intro ?_ ?_
          | exact Nat.le_of_ble_eq_true rfl | exact int_eq (by rw [IntWalk.i64_in _ (by omega)] <;> omega))
      · by_cases ea : (ns.getD k default).a = g
        · have yp : partP (ns.getD k default) g := .inl ⟨c0, ea⟩
          have hv := (blG_t hlt yp).symm.trans hi
          by_cases c1 : 6 ≤ (ns.getD k default).op ∧ (ns.getD k default).op ≤ 10
          · have t2 : ¬ twoP3 (ns.getD k default).op := by unfold twoP3; omega
            conv => whnf
            repeat' (first
              | ((first | refine aIf_t ?_ | refine aIf_f ?_ | refine fun (_ : _ ≤ maxLen) => ?_ | refine aGet_in rfl ?_ | refine And.intro (by omega) ?_ | refine And.intro (Nat.le_of_ble_eq_true rfl) ?_ | refine callG_t ?_ | refine append_same ?_ | refine part_nd_n (by omega) ?_ | refine l3Two_call trivial ?_ | refine l3One_call trivial ?_ | refine set_force ?_ | refine And.intro (by kernel_rfl) ?_); conv => whnf) | refine aIf_eqt ?_
              | refine aIf_eqf ?_ | (refine aIf_dec (fun _ => ?_) (fun _ => ?_) <;> conv => whnf))
            all_goals (first | (exfalso; omega) | contradiction | skip)
            all_goals exact retS rfl (congrArg AV.bool hv)
          · have t2 : twoP3 (ns.getD k default).op := by unfold twoP3; omega
            conv => whnf
            repeat' (first
              | ((first | refine aIf_t ?_ | refine aIf_f ?_ | refine fun (_ : _ ≤ maxLen) => ?_ | refine aGet_in rfl ?_ | refine And.intro (by omega) ?_ | refine And.intro (Nat.le_of_ble_eq_true rfl) ?_ | refine callG_t ?_ | refine append_same ?_ | refine part_nd_n (by omega) ?_ | refine l3Two_call trivial ?_ | refine l3One_call trivial ?_ | refine set_force ?_ | refine And.intro (by kernel_rfl) ?_); conv => whnf) | refine aIf_eqt ?_
              | refine aIf_eqf ?_ | (refine aIf_dec (fun _ => ?_) (fun _ => ?_) <;> conv => whnf))
            all_goals (first | (exfalso; omega) | contradiction | skip)
            all_goals exact retS rfl (congrArg AV.bool hv)
        · by_cases c1 : 6 ≤ (ns.getD k default).op ∧ (ns.getD k default).op ≤ 10
          · have t2 : ¬ twoP3 (ns.getD k default).op := by unfold twoP3; omega
            have np : ¬ partP (ns.getD k default) g := fun h => h.elim (fun h => ea h.2) (fun h => by omega)
            conv => whnf
            repeat' (first
              | ((first | refine aIf_t ?_ | refine aIf_f ?_ | refine fun (_ : _ ≤ maxLen) => ?_ | refine aGet_in rfl ?_ | refine And.intro (by omega) ?_ | refine And.intro (Nat.le_of_ble_eq_true rfl) ?_ | refine callG_t ?_ | refine append_same ?_ | refine part_nd_n (by omega) ?_ | refine l3Two_call trivial ?_ | refine l3One_call trivial ?_ | refine set_force ?_ | refine And.intro (by kernel_rfl) ?_); conv => whnf) | refine aIf_eqt ?_
              | refine aIf_eqf ?_ | (refine aIf_dec (fun _ => ?_) (fun _ => ?_) <;> conv => whnf))
            all_goals (first | (exfalso; omega) | contradiction | skip)
            refine next_u (k + 1) (show ns.length - (k + 1) < ns.length - k by omega) ⟨(by omega : k + 1 ≤ ns.length), (blG_f hlt np).symm.trans hi⟩ ?_
            conv => whnf
            repeat' (first
              | exact trivial | exact rfl
              | exact pureL_ii _ _ | exact pureL_nd _ _
              | refine Or.inr ?_ | refine And.intro ?_ ?_
              | exact Nat.le_of_ble_eq_true rfl | exact int_eq (by rw [IntWalk.i64_in _ (by omega)] <;> omega))
          · have t2 : twoP3 (ns.getD k default).op := by unfold twoP3; omega
            by_cases eb : (ns.getD k default).b = g
            · have yp : partP (ns.getD k default) g := .inr ⟨by omega, eb⟩
              have hv := (blG_t hlt yp).symm.trans hi
              conv => whnf
              repeat' (first
                | ((first | refine aIf_t ?_ | refine aIf_f ?_ | refine fun (_ : _ ≤ maxLen) => ?_ | refine aGet_in rfl ?_ | refine And.intro (by omega) ?_ | refine And.intro (Nat.le_of_ble_eq_true rfl) ?_ | refine callG_t ?_ | refine append_same ?_ | refine part_nd_n (by omega) ?_ | refine l3Two_call trivial ?_ | refine l3One_call trivial ?_ | refine set_force ?_ | refine And.intro (by kernel_rfl) ?_); conv => whnf) | refine aIf_eqt ?_
                | refine aIf_eqf ?_ | (refine aIf_dec (fun _ => ?_) (fun _ => ?_) <;> conv => whnf))
              all_goals (first | (exfalso; omega) | contradiction | skip)
              all_goals exact retS rfl (congrArg AV.bool hv)
            · have np : ¬ partP (ns.getD k default) g := fun h => h.elim (fun h => ea h.2) (fun h => eb h.2)
              conv => whnf
              repeat' (first
                | ((first | refine aIf_t ?_ | refine aIf_f ?_ | refine fun (_ : _ ≤ maxLen) => ?_ | refine aGet_in rfl ?_ | refine And.intro (by omega) ?_ | refine And.intro (Nat.le_of_ble_eq_true rfl) ?_ | refine callG_t ?_ | refine append_same ?_ | refine part_nd_n (by omega) ?_ | refine l3Two_call trivial ?_ | refine l3One_call trivial ?_ | refine set_force ?_ | refine And.intro (by kernel_rfl) ?_); conv => whnf) | refine aIf_eqt ?_
                | refine aIf_eqf ?_ | (refine aIf_dec (fun _ => ?_) (fun _ => ?_) <;> conv => whnf))
              all_goals (first | (exfalso; omega) | contradiction | skip)
              refine next_u (k + 1) (show ns.length - (k + 1) < ns.length - k by omega) ⟨(by omega : k + 1 ≤ ns.length), (blG_f hlt np).symm.trans hi⟩ ?_
              conv => whnf
              repeat' (first
                | exact trivial | exact rfl
                | exact pureL_ii _ _ | exact pureL_nd _ _
                | refine Or.inr ?_ | refine And.intro ?_ ?_
                | exact Nat.le_of_ble_eq_true rfl | exact int_eq (by rw [IntWalk.i64_in _ (by omega)] <;> omega))
    · have e : k = ns.length := by omega
      subst e
      conv => whnf
      repeat' (first
        | ((first | refine aIf_t ?_ | refine aIf_f ?_ | refine fun (_ : _ ≤ maxLen) => ?_ | refine aGet_in rfl ?_ | refine And.intro (by omega) ?_ | refine callG_t ?_ | refine append_same ?_ | refine part_nd_n (by omega) ?_ | refine l3Two_call trivial ?_ | refine l3One_call trivial ?_ | refine set_force ?_); conv => whnf) | refine aIf_eqt ?_
        | refine aIf_eqf ?_ | (refine aIf_dec (fun _ => ?_) (fun _ => ?_) <;> conv => whnf))
      all_goals (first | (exfalso; omega) | contradiction | skip)
      refine retS rfl (congrArg AV.bool ?_)
      rw [← hi, Nat.sub_self]; rfl
theorem l6Below_call {c g : Nat} {xss : List (List Int)} {ns : List Nd} {env : List AV} {rows : List Row} {ctr low : Nat} {k : AV → St → Prop} (hM : (shM xss ns).2 = true) (hg : g < ns.length) (h : k (.bool (blB ns g)) ⟨env, rows, ctr + 1, low⟩) :
    CallB Tryz.prog 79 ⟨env, rows, ctr, low⟩ [.agg [.sl c xss.length (xss.map (slI c)), .sl c ns.length (ns.flatMap (ndC c))], .int .i64 g] k := callS_in l6Below_sound (c, xss, ns, g) ⟨hM, hg⟩ rfl h
end Go.Proofs.YtjmdhfjemaoebaaGreat
