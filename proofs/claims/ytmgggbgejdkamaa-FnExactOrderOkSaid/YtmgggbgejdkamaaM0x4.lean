import Derived.Test.YtmgggbgejdkamaaV16
import Derived.Test.YtmgggbgejdkamaaM01x26
/- Chapter 5: OrderOk of the program; orders in the laws. -/
namespace Go.Proofs.Ytmgggbgejdkamaa
set_option maxRecDepth 20000
open Go.RowKit Go.Am
set_option linter.unusedSimpArgs false
attribute [local irreducible] aPlan aGet aIf aLoop aCall RetB NextB CallB CallG aCut aSet aAppend
theorem iOrderCost_call {c d e g : Nat} {zs o : List Int} {fs ps : List (List Int)} {env : List AV} {rows : List Row} {ctr low : Nat} {k : AV → St → Prop} (hpre : True) (h : k (.int .i64 (odC (zs, fs, o) ps)) ⟨env, rows, ctr + 1, low⟩) :
    CallB Try.prog 38 ⟨env, rows, ctr, low⟩ [.agg [.sl c zs.length (zs.map (.int .i64)), .sl d fs.length (fs.map (slI d)), .sl e o.length (o.map (.int .i64))], .sl g ps.length (ps.map (slI g))] k := callS_in iOrderCost_sound ((c, zs, d, fs, e, o), g, ps) hpre rfl h
theorem iOrderOk_sound : Sound Try.prog 20 sOrderOk := by
  refine sound_of Try.func20 rfl (enters_of Try.func20 (by kernel_rfl) (by kernel_rfl)) ?_
  rintro ⟨⟨c, zs, d, fs, e, o⟩, g, ps⟩ -
  have hb : decide (0 ≤ odC (zs, fs, o) ps) = decide (odP (zs, fs, o) ps) := decide_eq_decide.2 odC_nn
  conv => whnf
  repeat' (first
    | (refine aIf_t ?_; conv => whnf)
    | (refine aIf_f ?_; conv => whnf)
    | (refine fun (_ : _ ≤ maxLen) => ?_; conv => whnf)
    | (refine get_nat0 (by omega) ?_; conv => whnf)
    | (refine get_int0 (by omega) ?_; conv => whnf)
    | (refine get_nat (by omega) ?_; conv => whnf)
    | (refine get_int (by omega) ?_; conv => whnf)
    | (refine aGet_in rfl ?_; conv => whnf)
    | (refine And.intro (And.intro (Int.le_refl _) (And.intro (by kernel_rfl) (And.intro rfl (by kernel_rfl)))) (And.intro (And.intro (by omega) (And.intro (bytes_le (b := 8) rfl (by omega)) (by omega))) ?_); conv => whnf)
    | (refine And.intro (by omega) ?_; conv => whnf)
    | (refine load_same ?_; conv => whnf)
    | (refine And.intro (by rw [List.length_map]; omega) ?_; conv => whnf)
    | (refine And.intro rfl (And.intro (List.cons_ne_nil _ _) ?_); conv => whnf)
    | (refine And.intro (Nat.le_of_ble_eq_true rfl) ?_; conv => whnf)
    | (refine callG_t ?_; conv => whnf)
    | (refine append_same ?_; conv => whnf)
    | (refine get_ii_n (by omega) ?_; conv => whnf)
    | (refine get_ii (by omega) ?_; conv => whnf)
    | (refine get_nd_n (by omega) rfl ?_; conv => whnf)
    | (refine get_nd (by omega) rfl ?_; conv => whnf)
    | (refine get_tn_n (by omega) rfl ?_; conv => whnf)
    | (refine get_tn (by omega) rfl ?_; conv => whnf)
    | (refine part_nd_n (by omega) ?_; conv => whnf)
    | (refine part_nd (by omega) ?_; conv => whnf)
    | (refine part_tn_n (by omega) ?_; conv => whnf)
    | (refine part_tn (by omega) ?_; conv => whnf)
    | (refine And.intro (pureL_ii _ _) ?_; conv => whnf)
    | (refine And.intro (pureL_nd _ _) ?_; conv => whnf)
    | (refine And.intro (pureL_tn _ _) ?_; conv => whnf)
    | (refine cut_ii rfl ?_; conv => whnf)
    | (refine cut_nd rfl ?_; conv => whnf)
    | (refine cut_tn rfl ?_; conv => whnf)
    | (refine get_ml_n (by omega) ?_; conv => whnf)
    | (refine get_ml (by omega) ?_; conv => whnf)
    | (refine And.intro (pureL_ml _) ?_; conv => whnf)
    | (refine cut_ml rfl ?_; conv => whnf)
    | (refine And.intro (And.intro (Int.le_refl _) (And.intro (by kernel_rfl) (And.intro rfl (by kernel_rfl)))) (And.intro (And.intro (by omega) (And.intro (bytes_le (b := 24) rfl (by omega)) (by omega))) ?_); conv => whnf)
    | (refine And.intro (And.intro (Int.le_refl _) (And.intro (by kernel_rfl) (And.intro rfl (by kernel_rfl)))) (And.intro (And.intro (by omega) (And.intro (bytes_le (b := 48) rfl (by omega)) (by omega))) ?_); conv => whnf)
    | (refine And.intro rfl (And.intro rfl (And.intro (by rw [fillC_length (by omega)]; omega) ?_)); conv => whnf)
    | (refine And.intro rfl (And.intro rfl (And.intro (by rw [fillF_length (ndO_length _) rfl (by omega)]; omega) ?_)); conv => whnf)
    | (refine And.intro rfl (And.intro rfl (And.intro (by rw [fillF_length (tnO_length _) rfl (by omega)]; omega) ?_)); conv => whnf)
    | (refine And.intro (le_fillF_len (ndO_length _) rfl (by omega)) ?_; conv => whnf)
    | (refine And.intro (le_fillF_len (tnO_length _) rfl (by omega)) ?_; conv => whnf)
    | (refine set_fillC (by omega) (by omega) ?_; conv => whnf)
    | (refine set_fillF (ndO_length _) (by omega) rfl ?_; conv => whnf)
    | (refine set_fillF (tnO_length _) (by omega) rfl ?_; conv => whnf)
    | (refine getb_n (by omega) ?_; conv => whnf)
    | (refine getb_n0 (by omega) ?_; conv => whnf)
    | (refine setb_n ?_ (by omega); conv => whnf)
    | (refine cut_bools ?_; conv => whnf)
    | (refine And.intro (ond_fit (by omega) (Nat.le_of_ble_eq_true rfl)) ?_; conv => whnf)
    | (refine set_ond (by omega) (Nat.le_of_ble_eq_true rfl) ⟨_, rfl⟩ (fun _ _ _ _ => ?_); conv => whnf)
    | (refine get_oi_n (by omega) ?_; conv => whnf)
    | (refine get_ond_n (by omega) rfl ?_; conv => whnf)
    | (refine get_otn_n (by omega) rfl ?_; conv => whnf)
    | (refine iOrderCost_call trivial ?_; conv => whnf)
    | (refine takeN_in ?_; conv => whnf)
    | (refine And.intro (pureL_ints _ _) ?_; conv => whnf)
    | (refine And.intro (pureL_take _ _ _) ?_; conv => whnf)
    | (refine And.intro (pureL_cut _ _ _ _) ?_; conv => whnf)
    | (refine cut_ints ?_; conv => whnf)
    | (refine cut_marks ?_; conv => whnf)
    | (refine cut_all rfl (scalL_ints _ _) ?_; conv => whnf)
    | (refine cut_all (by simp only [List.length_map]; omega) (scalL_ints _ _) ?_; conv => whnf)
    | (refine append_int rfl rfl (by first | rfl | (simp only [List.length_take, turned_length]; omega)) (by omega) (Nat.le_of_ble_eq_true rfl) ?_; conv => whnf)
    | (refine And.intro rfl (And.intro rfl (And.intro (by first | omega | (rw [List.length_map]; omega)) ?_)); conv => whnf)
    | (refine set_nat ?_ (by omega); conv => whnf)
    | (refine set_int ?_ (by omega); conv => whnf)
    | (refine set_bool ?_ (by omega); conv => whnf)
    | (refine set_force ?_; conv => whnf)
    | (refine get_bool0 (by omega) ?_; conv => whnf)
    | (refine And.intro (And.intro (Int.le_refl _) (And.intro (by kernel_rfl) (And.intro rfl (by kernel_rfl)))) (And.intro (And.intro (by omega) (And.intro (bytes_le (b := 1) rfl (by omega)) (by omega))) ?_); conv => whnf)
    | (refine And.intro (And.intro (by kernel_rfl) (And.intro rfl (Nat.le_of_ble_eq_true rfl))) ?_; conv => whnf)
    | (refine And.intro (And.intro (by kernel_rfl) (by kernel_rfl)) ?_; conv => whnf)
    | (refine And.intro (by kernel_rfl) ?_; conv => whnf)
    | (refine aIf_tt (by assumption) ?_; conv => whnf)
    | (refine aIf_ff (by assumption) ?_; conv => whnf)
    | refine aIf_eqt ?_
    | refine aIf_eqf ?_
    | refine aIf_not ?_
    | (refine aIf_bself ?_; conv => whnf)
    | (refine aIf_beself ?_; conv => whnf)
    | (refine aIf_iself ?_; conv => whnf)
    | (refine aIf_decself ?_; conv => whnf)
    | (refine aIf_dec (fun _ => ?_) (fun _ => ?_) <;> conv => whnf)
    | (refine aIf_beq (fun _ => ?_) (fun _ => ?_) <;> conv => whnf)
    | (refine aIf_bne (fun _ => ?_) (fun _ => ?_) <;> conv => whnf)
    | (refine aIf_bbne (fun _ => ?_) (fun _ => ?_) <;> conv => whnf)
    | (refine aIf_bbeq (fun _ => ?_) (fun _ => ?_) <;> conv => whnf)
    | (refine aIf_in (fun _ => ?_) (fun _ => ?_) <;> conv => whnf))
  exact retS rfl (congrArg AV.bool hb)
theorem iOrderOk_call {c d e g : Nat} {zs o : List Int} {fs ps : List (List Int)} {env : List AV} {rows : List Row} {ctr low : Nat} {k : AV → St → Prop} (hpre : True) (h : k (.bool (decide (odP (zs, fs, o) ps))) ⟨env, rows, ctr + 1, low⟩) :
    CallB Try.prog 20 ⟨env, rows, ctr, low⟩ [.agg [.sl c zs.length (zs.map (.int .i64)), .sl d fs.length (fs.map (slI d)), .sl e o.length (o.map (.int .i64))], .sl g ps.length (ps.map (slI g))] k := callS_in iOrderOk_sound ((c, zs, d, fs, e, o), g, ps) hpre rfl h
end Go.Proofs.Ytmgggbgejdkamaa

/- Chapter 5: an order as a law's argument. -/
namespace Go.Proofs.Ytmgggbgejdkamaa
set_option maxRecDepth 20000
open Go.RowKit Go.Am Go.WideShapes Go.ChangeShapes
theorem argLL {av : AV} (h : ArgR Try.prog 23 av) : ∃ xss : List (List Int), av = .sl 1 xss.length (xss.map (slI 1)) := by
  unfold ArgR at h
  rw [uIIs] at h
  obtain ⟨xss, e, -⟩ := cells_slice (f := fun xs => [slI 1 xs]) (q := fun _ => True) uIIs h fun us hus => by
    obtain ⟨zs, e, -⟩ := cellsInts uInts uInt hus
    exact ⟨zs, e, trivial⟩
  have em := flat_one (slI 1) xss
  rw [em] at e
  exact ⟨xss, by simpa using e⟩
end Go.Proofs.Ytmgggbgejdkamaa
