import Derived.Test.YtmgggbgejdkamaaV25
import Derived.Test.YtmgggbgejdkamaaV26
import Derived.Test.YtmgggbgejdkamaaM01x26
/- Chapter 5: GreedyOrder in the law. -/
namespace Go.Proofs.Ytmgggbgejdkamaa
set_option maxRecDepth 20000
open Go.RowKit Go.Am
set_option linter.unusedSimpArgs false
theorem sGreedy_call {c d e : Nat} {zs o : List Int} {fs : List (List Int)} {env : List AV} {rows : List Row} {ctr low : Nat} {k : AV → St → Prop} (h : k (.tup [.ref rows.length ctr 0 (grM (zs, fs, o)).1.length, .bool (grM (zs, fs, o)).2]) ⟨env, rows ++ [⟨ctr, 22, 1, (grM (zs, fs, o)).1.map (ownI 3)⟩], ctr + 1, low⟩) :
    CallB Try.prog 47 ⟨env, rows, ctr, low⟩ [.agg [.sl c zs.length (zs.map (.int .i64)), .sl d fs.length (fs.map (slI d)), .sl e o.length (o.map (.int .i64))]] k := callRB_in sGreedy_sound (c, zs, d, fs, e, o) trivial (protL_oi _ _) h
theorem iGreedy_call {c d e : Nat} {zs o : List Int} {fs : List (List Int)} {env : List AV} {rows : List Row} {ctr low : Nat} {k : AV → St → Prop} (h : k (.tup [.ref rows.length ctr 0 (grM (zs, fs, o)).1.length, .bool (grM (zs, fs, o)).2]) ⟨env, rows ++ [⟨ctr, 22, 1, (grM (zs, fs, o)).1.map (ownI 3)⟩], ctr + 1, low⟩) :
    CallB Try.prog 48 ⟨env, rows, ctr, low⟩ [.agg [.sl c zs.length (zs.map (.int .i64)), .sl d fs.length (fs.map (slI d)), .sl e o.length (o.map (.int .i64))]] k := callRB_in iGreedy_sound (c, zs, d, fs, e, o) trivial (protL_oi _ _) h
theorem tot_gL (S : Sm) : ∀ i, gP S i → tot (gL S i) = 2 * i
  | 0, _ => rfl
  | i + 1, h => by
    have ih := tot_gL S i fun j hj => h j (by omega)
    have h2 := (bst_ok (h i (Nat.lt_succ_self _))).1
    show tot (gL S i ++ [bst (gT S i)]) = _
    unfold tot at ih ⊢
    rw [List.map_append, List.sum_append, ih]
    simp [h2]; omega
theorem grM_size (S : Sm) : (grM S).1.length + tot (grM S).1 ≤ 1000 := by
  by_cases h : grP S
  · rw [gr_t h]
    have h4 := h.1.2.2.1
    have e1 := gL_len S (S.2.1.length - 1)
    have e2 := tot_gL S _ h.2
    show (gL S (S.2.1.length - 1)).length + tot (gL S (S.2.1.length - 1)) ≤ 1000
    omega
  · rw [gr_f h]; exact Nat.zero_le _
end Go.Proofs.Ytmgggbgejdkamaa
