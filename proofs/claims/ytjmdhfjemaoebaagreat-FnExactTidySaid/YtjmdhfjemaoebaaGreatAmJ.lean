import Derived.Test.YtjmdhfjemaoebaaGreatAmI
namespace Go.Am
open Go.RowKit
variable {D : Nat → Prop}
mutual
def AV.pure : AV → Bool
  | .ref _ _ _ _ => false
  | .ptr _ _ _ => false
  | .rd _ => false
  | .tup _ => false
  | .sl _ _ cs => pureL cs
  | .agg cs => pureL cs
  | .own _ _ _ cs => pureL cs
  | .un => true
  | .int _ _ => true
  | .bool _ => true
  | .str _ => true
  | .nil => true
def pureL : List AV → Bool
  | [] => true
  | u :: us => u.pure && pureL us
end
mutual
def AV.prot : AV → Bool
  | .ref _ _ _ _ => false
  | .ptr _ _ _ => false
  | .rd _ => false
  | .tup _ => false
  | .sl c _ cs => c == 1 && protL cs
  | .agg cs => protL cs
  | .own _ _ _ cs => protL cs
  | .un => true
  | .int _ _ => true
  | .bool _ => true
  | .str _ => true
  | .nil => true
def protL : List AV → Bool
  | [] => true
  | u :: us => u.prot && protL us
end
mutual
def AV.resOk : AV → Bool
  | .ref _ _ _ _ => true
  | .ptr _ _ _ => true
  | .rd _ => false
  | .tup us => resOkL us
  | .sl c _ cs => c == 1 && protL cs
  | .agg cs => resOkL cs
  | .own _ _ _ cs => resOkL cs
  | .un => true
  | .int _ _ => true
  | .bool _ => true
  | .str _ => true
  | .nil => true
def resOkL : List AV → Bool
  | [] => true
  | u :: us => u.resOk && resOkL us
end
def backT (s : St) (T : List Nat) (t : Nat) : Nat := if t < T.length then T.getD t 0 else t - T.length + s.rows.length
def verOf (s : St) (τ : Nat) : Nat :=
  match s.rows[τ]? with
  | some r => r.ver
  | none => 0
def backV (s : St) (T : List Nat) (t : Nat) : Nat := if t < T.length then verOf s (T.getD t 0) else s.ctr
mutual
def AV.back (s : St) (T : List Nat) : AV → AV
  | .ref t _ off n => .ref (backT s T t) (backV s T t) off n
  | .ptr t _ off => .ptr (backT s T t) (backV s T t) off
  | .tup us => .tup (backL s T us)
  | .agg cs => .agg (backL s T cs)
  | .own e z n cs => .own e z n (backL s T cs)
  | .rd cs => .rd cs
  | .sl c n cs => .sl c n cs
  | .un => .un
  | .int k n => .int k n
  | .bool b => .bool b
  | .str b => .str b
  | .nil => .nil
def backL (s : St) (T : List Nat) : List AV → List AV
  | [] => []
  | u :: us => u.back s T :: backL s T us
end
mutual
def AV.ren (s : St) (T : List Nat) : AV → Option AV
  | .ref τ ver off n =>
    match s.rows[τ]? with
    | some r => if r.ver = ver ∧ τ ∈ T then some (.ref (T.idxOf τ) 0 off n) else none
    | none => none
  | .ptr τ ver off =>
    match s.rows[τ]? with
    | some r => if r.ver = ver ∧ τ ∈ T then some (.ptr (T.idxOf τ) 0 off) else none
    | none => none
  | .rd _ => none
  | .tup us => (renL s T us).map .tup
  | .agg cs => (renL s T cs).map .agg
  | .own e z n cs => (renL s T cs).map (.own e z n)
  | .sl c n cs => if c = 1 ∧ protL cs = true then some (.sl c n cs) else none
  | .un => some .un
  | .int k n => some (.int k n)
  | .bool b => some (.bool b)
  | .str b => some (.str b)
  | .nil => some .nil
def renL (s : St) (T : List Nat) : List AV → Option (List AV)
  | [] => some []
  | u :: us => (u.ren s T).bind fun u' => (renL s T us).map (u' :: ·)
end
theorem pureL_get : ∀ {us : List AV} {j : Nat} {u : AV}, pureL us = true → us[j]? = some u → u.pure = true
  | [], j, u, _, h => by simp at h
  | x :: us, j, u, hp, h => by
    simp only [pureL, Bool.and_eq_true] at hp
    cases j with
    | zero => simp at h; subst h; exact hp.1
    | succ j => exact pureL_get hp.2 (by simpa using h)
theorem protL_get : ∀ {us : List AV} {j : Nat} {u : AV}, protL us = true → us[j]? = some u → u.prot = true
  | [], j, u, _, h => by simp at h
  | x :: us, j, u, hp, h => by
    simp only [protL, Bool.and_eq_true] at hp
    cases j with
    | zero => simp at h; subst h; exact hp.1
    | succ j => exact protL_get hp.2 (by simpa using h)
theorem resOkL_get : ∀ {us : List AV} {j : Nat} {u : AV}, resOkL us = true → us[j]? = some u → u.resOk = true
  | [], j, u, _, h => by simp at h
  | x :: us, j, u, hp, h => by
    simp only [resOkL, Bool.and_eq_true] at hp
    cases j with
    | zero => simp at h; subst h; exact hp.1
    | succ j => exact resOkL_get hp.2 (by simpa using h)
theorem backL_get {s : St} {T : List Nat} : ∀ (us : List AV) (j : Nat), (backL s T us)[j]? = (us[j]?).map (AV.back s T)
  | [], j => by simp [backL]
  | x :: us, j => by
    cases j with
    | zero => simp [backL]
    | succ j => simpa [backL] using backL_get us j
theorem backL_length {s : St} {T : List Nat} : ∀ (us : List AV), (backL s T us).length = us.length
  | [] => rfl
  | x :: us => by simp [backL, backL_length us]
theorem renL_get {s : St} {T : List Nat} : ∀ {us us' : List AV}, renL s T us = some us' → us'.length = us.length ∧ ∀ (j : Nat) (u' : AV), us'[j]? = some u' → ∃ u, us[j]? = some u ∧ u.ren s T = some u'
  | [], us', h => by simp only [renL, Option.some.injEq] at h; subst h; exact ⟨rfl, fun j u' h => by simp at h⟩
  | u :: us, us', h => by
    simp only [renL, Option.bind_eq_some_iff, Option.map_eq_some_iff] at h
    obtain ⟨u1, h1, us1, h2, rfl⟩ := h
    obtain ⟨a1, a2⟩ := renL_get h2
    refine ⟨by simp [a1], fun j u' hu => ?_⟩
    cases j with
    | zero => simp at hu; subst hu; exact ⟨u, rfl, h1⟩
    | succ j =>
      obtain ⟨x, b1, b2⟩ := a2 j u' (by simpa using hu)
      exact ⟨x, by simpa using b1, b2⟩
mutual
theorem prot_back {s : St} {T : List Nat} : ∀ {u : AV}, u.prot = true → u.back s T = u
  | .ref _ _ _ _, h => by simp [AV.prot] at h
  | .ptr _ _ _, h => by simp [AV.prot] at h
  | .rd _, _ => rfl
  | .tup _, h => by simp [AV.prot] at h
  | .sl _ _ _, _ => rfl
  | .agg cs, h => by
    simp only [AV.prot] at h
    simp only [AV.back, protL_back h]
  | .own _ _ _ cs, h => by
    simp only [AV.prot] at h
    simp only [AV.back, protL_back h]
  | .un, _ => rfl
  | .int _ _, _ => rfl
  | .bool _, _ => rfl
  | .str _, _ => rfl
  | .nil, _ => rfl
theorem protL_back {s : St} {T : List Nat} : ∀ {us : List AV}, protL us = true → backL s T us = us
  | [], _ => rfl
  | u :: us, h => by
    simp only [protL, Bool.and_eq_true] at h
    simp only [backL, prot_back h.1, protL_back h.2]
end
mutual
theorem prot_ren {s : St} {T : List Nat} : ∀ {u : AV}, u.prot = true → u.ren s T = some u
  | .ref _ _ _ _, h => by simp [AV.prot] at h
  | .ptr _ _ _, h => by simp [AV.prot] at h
  | .rd _, h => by simp [AV.prot] at h
  | .tup _, h => by simp [AV.prot] at h
  | .sl c n cs, h => by
    simp only [AV.prot, Bool.and_eq_true, beq_iff_eq] at h
    simp [AV.ren, h.1, h.2]
  | .agg cs, h => by
    simp only [AV.prot] at h
    simp only [AV.ren, protL_ren h, Option.map_some]
  | .own _ _ _ cs, h => by
    simp only [AV.prot] at h
    simp only [AV.ren, protL_ren h, Option.map_some]
  | .un, _ => rfl
  | .int _ _, _ => rfl
  | .bool _, _ => rfl
  | .str _, _ => rfl
  | .nil, _ => rfl
theorem protL_ren {s : St} {T : List Nat} : ∀ {us : List AV}, protL us = true → renL s T us = some us
  | [], _ => rfl
  | u :: us, h => by
    simp only [protL, Bool.and_eq_true] at h
    simp only [renL, prot_ren h.1, protL_ren h.2, Option.bind_some, Option.map_some]
end
mutual
theorem ren_resOk {s : St} {T : List Nat} : ∀ {u u' : AV}, u.ren s T = some u' → u'.resOk = true
  | .ref τ ver off n, u', h => by
    simp only [AV.ren] at h
    split at h
    · split at h
      · cases h; rfl
      · cases h
    · cases h
  | .ptr τ ver off, u', h => by
    simp only [AV.ren] at h
    split at h
    · split at h
      · cases h; rfl
      · cases h
    · cases h
  | .rd _, u', h => by simp [AV.ren] at h
  | .tup us, u', h => by
    simp only [AV.ren, Option.map_eq_some_iff] at h
    obtain ⟨us', h1, rfl⟩ := h
    simp only [AV.resOk]; exact renL_resOk h1
  | .agg us, u', h => by
    simp only [AV.ren, Option.map_eq_some_iff] at h
    obtain ⟨us', h1, rfl⟩ := h
    simp only [AV.resOk]; exact renL_resOk h1
  | .own e z n us, u', h => by
    simp only [AV.ren, Option.map_eq_some_iff] at h
    obtain ⟨us', h1, rfl⟩ := h
    simp only [AV.resOk]; exact renL_resOk h1
  | .sl c n cs, u', h => by
    simp only [AV.ren] at h
    split at h
    · rename_i hc; cases h; simp [AV.resOk, hc.1, hc.2]
    · cases h
  | .un, u', h => by simp only [AV.ren, Option.some.injEq] at h; subst h; rfl
  | .int _ _, u', h => by simp only [AV.ren, Option.some.injEq] at h; subst h; rfl
  | .bool _, u', h => by simp only [AV.ren, Option.some.injEq] at h; subst h; rfl
  | .str _, u', h => by simp only [AV.ren, Option.some.injEq] at h; subst h; rfl
  | .nil, u', h => by simp only [AV.ren, Option.some.injEq] at h; subst h; rfl
theorem renL_resOk {s : St} {T : List Nat} : ∀ {us us' : List AV}, renL s T us = some us' → resOkL us' = true
  | [], us', h => by simp only [renL, Option.some.injEq] at h; subst h; rfl
  | u :: us, us', h => by
    simp only [renL, Option.bind_eq_some_iff, Option.map_eq_some_iff] at h
    obtain ⟨u1, h1, us1, h2, rfl⟩ := h
    simp only [resOkL, ren_resOk h1, renL_resOk h2, Bool.and_self]
end
section
variable {P : Program} {w : World} {φ : Places} {s : St} {env : List Value}
theorem VR.repure {rows : List Row} {ctr : Nat} {v : Value} {u : AV} (h : VR D w φ rows ctr v u) (hp : u.pure = true) {φ' : Places} {rows' : List Row} {ctr' : Nat} (hφ : ∀ b, b < w.heap.size → ¬ φ.O b → ¬ φ'.O b) : VR D w φ' rows' ctr' v u := by
  induction h with
  | un v => exact .un v
  | int k n => exact .int k n
  | bool b => exact .bool b
  | str s => exact .str s
  | nil => exact .nil
  | sl0 A cap c hm => exact .sl0 A cap c hm
  | sl ad c n cap cells vs hs hF hD hlt hn hm hl hc h1 hv ih =>
    simp only [AV.pure] at hp
    exact .sl ad c n cap cells vs hs (hφ _ hlt hF) hD hlt hn hm hl hc h1 (fun j v u hv' hu => ih j v u hv' hu (pureL_get hp hu))
  | rd ad cells vs hs hF hlt hl hc h1 hv ih => simp [AV.pure] at hp
  | agg cs cells hl h1 hv ih =>
    simp only [AV.pure] at hp
    exact .agg cs cells hl h1 (fun j v u hv' hu => ih j v u hv' hu (pureL_get hp hu))
  | tup vs us hl hv ih => simp [AV.pure] at hp
  | ref t ver off n v hlt h1 h => simp [AV.pure] at hp
  | ptr t ver off v hlt h1 h => simp [AV.pure] at hp
theorem CV.repure {rows : List Row} {ctr : Nat} {v : Value} {u : AV} {F : Foot} (h : CV D w φ rows ctr v u F) (hp : u.pure = true) {φ' : Places} {rows' : List Row} {ctr' : Nat} (hφ : ∀ b, b < w.heap.size → ¬ φ.O b → ¬ φ'.O b) : CV D w φ' rows' ctr' v u F := by
  induction h with
  | vr v u h => exact .vr v u (h.repure hp hφ)
  | own0 e z hz => exact .own0 e z hz
  | own e z n g cap cur cells vs F hz hg hs hn hm hl hv hF hc ih =>
    simp only [AV.pure] at hp
    exact .own e z n g cap cur cells vs F hz hg hs hn hm hl hv hF fun j u hu => ih j u hu (pureL_get hp hu)
theorem VR.reprot {rows : List Row} {ctr : Nat} {v : Value} {u : AV} (h : VR D w φ rows ctr v u) (hp : u.prot = true) {φ' : Places} {rows' : List Row} {ctr' : Nat} (hφ : ∀ b, φ'.O b → ¬ D b) : VR D w φ' rows' ctr' v u := by
  induction h with
  | un v => exact .un v
  | int k n => exact .int k n
  | bool b => exact .bool b
  | str s => exact .str s
  | nil => exact .nil
  | sl0 A cap c hm => exact .sl0 A cap c hm
  | sl ad c n cap cells vs hs hF hD hlt hn hm hl hc h1 hv ih =>
    simp only [AV.prot, Bool.and_eq_true, beq_iff_eq] at hp
    exact .sl ad c n cap cells vs hs (fun hm' => hφ _ hm' (hD hp.1)) hD hlt hn hm hl hc h1 (fun j v u hv' hu => ih j v u hv' hu (protL_get hp.2 hu))
  | rd ad cells vs hs hF hlt hl hc h1 hv ih => simp [AV.prot] at hp
  | agg cs cells hl h1 hv ih =>
    simp only [AV.prot] at hp
    exact .agg cs cells hl h1 (fun j v u hv' hu => ih j v u hv' hu (protL_get hp hu))
  | tup vs us hl hv ih => simp [AV.prot] at hp
  | ref t ver off n v hlt h1 h => simp [AV.prot] at hp
  | ptr t ver off v hlt h1 h => simp [AV.prot] at hp
def BackRows (s : St) (T : List Nat) (rows rows' : List Row) (φ φ' : Places) : Prop :=
  ∀ (t : Nat) (r' : Row), rows'[backT s T t]? = some r' → r'.ver = backV s T t → ∃ r, rows[t]? = some r ∧ r.ver = 0 ∧ r.ety = r'.ety ∧ r.size = r'.size ∧ φ'.l[backT s T t]? = φ.l[t]?
theorem VR.back {rows : List Row} {v : Value} {u : AV} {T : List Nat} {ctr' : Nat} {c0 : Nat} (h : VR D w φ rows c0 v u) (hp : u.resOk = true) {φ' : Places} {rows' : List Row} (hφ : ∀ b, φ'.O b → ¬ D b) (hc : ∀ t, backV s T t < ctr')
    (hr : BackRows s T rows rows' φ φ') (hv0 : c0 = 1) : VR D w φ' rows' ctr' v (u.back s T) := by
  induction h with
  | un v => simp only [AV.back]; exact .un v
  | int k n => simp only [AV.back]; exact .int k n
  | bool b => simp only [AV.back]; exact .bool b
  | str s => simp only [AV.back]; exact .str s
  | nil => simp only [AV.back]; exact .nil
  | sl0 A cap c hm => simp only [AV.back]; exact .sl0 A cap c hm
  | sl ad c n cap cells vs hs hF hD hlt hn hm hl hc' h1 hv ih =>
    simp only [AV.back]
    exact (VR.sl (D := D) (w := w) (φ := φ) (rows := rows) (ctr := c0) ad c n cap cells vs hs hF hD hlt hn hm hl hc' h1 hv).reprot (by simpa [AV.prot, AV.resOk] using hp) hφ
  | rd ad cells vs hs hF hlt hl hc' h1 hv ih => simp [AV.resOk] at hp
  | agg cs cells hl h1 hv ih =>
    simp only [AV.resOk] at hp
    simp only [AV.back]
    refine .agg cs _ (by rw [backL_length]; exact hl) h1 (fun j v u hv' hu => ?_)
    rw [backL_get, Option.map_eq_some_iff] at hu
    obtain ⟨u', hu', rfl⟩ := hu
    exact ih j v u' hv' hu' (resOkL_get hp hu')
  | tup vs us hl hv ih =>
    simp only [AV.resOk] at hp
    simp only [AV.back]
    refine .tup vs _ (by rw [backL_length]; exact hl) (fun j v u hv' hu => ?_)
    rw [backL_get, Option.map_eq_some_iff] at hu
    obtain ⟨u', hu', rfl⟩ := hu
    exact ih j v u' hv' hu' (resOkL_get hp hu')
  | ref t ver off n v hlt h1 h =>
    simp only [AV.back]
    refine .ref _ _ _ _ _ (hc t) h1 fun r' hr' hver => ?_
    obtain ⟨r, a1, a2, a3, a4, a5⟩ := hr t r' hr' hver
    rcases h r a1 (by omega) with ⟨b1, b2, b3, b4⟩ | ⟨g, A, cap, cur, b1, b2, b3, b4, b5, b6, b7, b8⟩
    · exact .inl ⟨by rw [a5]; exact b1, b2, b3, b4⟩
    · exact .inr ⟨g, A, cap, cur, by rw [a5]; exact b1, b2, b3, b4, by rw [← a3]; exact b5, b6, by rw [← a4]; exact b7, by rw [← a4]; exact b8⟩
  | ptr t ver off v hlt h1 h =>
    simp only [AV.back]
    refine .ptr _ _ _ _ (hc t) h1 fun r' hr' hver => ?_
    obtain ⟨r, a1, a2, a3, a4, a5⟩ := hr t r' hr' hver
    obtain ⟨g, b1, b2⟩ := h r a1 (by omega)
    exact ⟨g, by rw [a5]; exact b1, b2⟩
theorem CV.back {rows : List Row} {v : Value} {u : AV} {F : Foot} {T : List Nat} {ctr' : Nat} {c0 : Nat} (h : CV D w φ rows c0 v u F) (hp : u.resOk = true) {φ' : Places} {rows' : List Row} (hφ : ∀ b, φ'.O b → ¬ D b) (hc : ∀ t, backV s T t < ctr')
    (hr : BackRows s T rows rows' φ φ') (hv0 : c0 = 1) : CV D w φ' rows' ctr' v (u.back s T) F := by
  induction h with
  | vr v u h => exact .vr v _ (h.back hp hφ hc hr hv0)
  | own0 e z hz => simp only [AV.back, backL]; exact .own0 e z hz
  | own e z n g cap cur cells vs F hz hg hs hn hm hl hv hF hcc ih =>
    simp only [AV.resOk] at hp
    simp only [AV.back]
    refine .own e z n g cap cur _ vs F hz hg hs hn hm (by rw [backL_length]; exact hl) (fun j u hu => ?_) (fun j hj => ?_) (fun j u hu => ?_)
    · rw [backL_get, Option.map_eq_some_iff] at hu
      obtain ⟨u', hu', rfl⟩ := hu
      exact hv j u' hu'
    · rw [backL_get, Option.map_eq_none_iff] at hj
      exact hF j hj
    · rw [backL_get, Option.map_eq_some_iff] at hu
      obtain ⟨u', hu', rfl⟩ := hu
      exact ih j u' hu' (resOkL_get hp hu')
def St.tree (s : St) (T : List Nat) : Nat → AV → Option AV
  | 0, _ => none
  | f + 1, u =>
    match u with
    | .nil => some (.sl 0 0 [])
    | .ref τ ver off n =>
      match s.rows[τ]? with
      | some r => if r.ver = ver ∧ off + n * r.size ≤ r.cells.length ∧ τ ∉ T then (((r.cells.drop off).take (n * r.size)).mapM (s.tree T f)).map (.sl 0 n) else none
      | none => none
    | .agg cs => (cs.mapM (s.tree T f)).map .agg
    | .own _ _ n cs => (cs.mapM (s.tree T f)).map (.sl 0 n)
    | u => if u.pure = true then some u else none
theorem mapM_get {α β : Type} {g : α → Option β} : ∀ {l : List α} {l' : List β}, l.mapM g = some l' → l'.length = l.length ∧ ∀ (j : Nat) (b : β), l'[j]? = some b → ∃ a, l[j]? = some a ∧ g a = some b
  | [], l', h => by
    simp at h; subst h; exact ⟨rfl, fun j b hb => by simp at hb⟩
  | x :: l, l', h => by
    simp only [List.mapM_cons, Option.bind_eq_bind, Option.pure_def, Option.bind_eq_some_iff, Option.some.injEq] at h
    obtain ⟨y, hy, ys, hys, rfl⟩ := h
    obtain ⟨h1, h2⟩ := mapM_get hys
    refine ⟨by simp [h1], fun j b hb => ?_⟩
    cases j with
    | zero => simp at hb; subst hb; exact ⟨x, rfl, hy⟩
    | succ j =>
      obtain ⟨a, ha, hg⟩ := h2 j b (by simpa using hb)
      exact ⟨a, by simpa using ha, hg⟩
theorem VR.sl_of {φc : Places} {rc : List Row} {cc : Nat} {g off n cap : Nat} {cur : Array Value} {e : TypeId} {cs : List AV} (hg : w.heap[g]? = some (.cells cur e (0, 0))) (hO : ¬ φc.O g) (hn : n ≤ cap) (hm : cap ≤ maxLen)
    (hv : ∀ (j : Nat) (u : AV), cs[j]? = some u → ∃ v, cur[off + j]? = some v ∧ v.oneCell' = true ∧ VR D w φc rc cc v u) : VR D w φc rc cc (.slice (some ⟨g, off, none⟩) n cap) (.sl 0 n cs) := by
  have get : ∀ j, j < cs.length → ∃ v u, cs[j]? = some u ∧ cur[off + j]? = some v ∧ v.oneCell' = true ∧ VR D w φc rc cc v u := fun j hj => by
    obtain ⟨v, a1, a2, a3⟩ := hv j _ (List.getElem?_eq_getElem hj)
    exact ⟨v, _, List.getElem?_eq_getElem hj, a1, a2, a3⟩
  refine .sl _ 0 n cap cs ((List.range cs.length).map fun j => (cur[off + j]?).getD undef) rfl hO (fun h0 => by omega) (lt_of_heap hg) hn hm (by simp) (fun j hj => ?_) (fun v hv' => ?_) (fun j v u hv' hu => ?_)
  · have hj' : j < cs.length := by simpa using hj
    obtain ⟨v, u, _, a1, _⟩ := get j hj'
    rw [add_mk]
    simp [World.cell?, hg, hj', a1]
  · simp only [List.mem_map, List.mem_range] at hv'
    obtain ⟨j, hj, rfl⟩ := hv'
    obtain ⟨v, u, _, a1, a2, _⟩ := get j hj
    simp [a1, a2]
  · have hj : j < cs.length := by
      have := (List.getElem?_eq_some_iff.1 hv').1
      simpa using this
    obtain ⟨v', u', a0, a1, _, a3⟩ := get j hj
    rw [a0] at hu; cases hu
    simp [hj, a1] at hv'
    subst hv'
    exact a3
theorem SR.tree (_ : SR D w φ env s) {ω : Nat → Nat → Foot} (hn : Nest D w φ s.rows s.ctr ω) {T : List Nat} {φc : Places} (hsub : ∀ b, b < w.heap.size → ¬ φ.O b → ¬ φc.O b) (hvis : ∀ τ g, φ.l[τ]? = some (some g) → τ ∉ T → ¬ φc.O g) (hnest : ∀ τ j p b, ω τ j p b → τ ∉ T → ¬ φc.O b)
    {rc : List Row} {cc : Nat} : ∀ (f : Nat), (∀ {v : Value} {u u' : AV}, VR D w φ s.rows s.ctr v u → s.tree T f u = some u' → VR D w φc rc cc v u') ∧
      (∀ {v : Value} {u u' : AV} {F : Foot}, CV D w φ s.rows s.ctr v u F → (∀ p b, F p b → ¬ φc.O b) → s.tree T f u = some u' → VR D w φc rc cc v u') := by
  intro f
  induction f with
  | zero => exact ⟨fun hv ht => by simp [St.tree] at ht, fun hv _ ht => by simp [St.tree] at ht⟩
  | succ f ih =>
    have plain : ∀ {v : Value} {u u' : AV}, VR D w φ s.rows s.ctr v u → s.tree T (f + 1) u = some u' → VR D w φc rc cc v u' := by
      intro v u u' hv ht
      have dflt : ∀ u0, u0.pure = true → u = u0 → u' = u0 → VR D w φc rc cc v u' := fun u0 hp e1 e2 => by
        subst e1; subst e2; exact hv.repure hp hsub
      unfold St.tree at ht
      split at ht
      · simp only [Option.some.injEq] at ht
        subst ht
        cases hv with
        | nil => exact .sl0 none 0 0 (Nat.zero_le _)
      · rename_i τ ver off n
        split at ht
        case h_2 => cases ht
        rename_i r hr
        split at ht
        case isFalse => cases ht
        rename_i hc
        obtain ⟨hver, hfit, hnT⟩ := hc
        rw [Option.map_eq_some_iff] at ht
        obtain ⟨cs, hcs, rfl⟩ := ht
        obtain ⟨m1, m2⟩ := mapM_get hcs
        cases hv with
        | ref _ _ _ _ _ hlt h1 hx =>
          rcases hx r hr hver with ⟨_, rfl, rfl, _⟩ | ⟨g, A, cap, cur, a1, rfl, a3, a4, a5, a6, a7, a8⟩
          · have : cs = [] := List.eq_nil_of_length_eq_zero (by rw [m1]; simp)
            subst this
            exact .sl0 none 0 0 (Nat.zero_le _)
          · by_cases hn0 : n = 0
            · subst hn0
              have : cs = [] := List.eq_nil_of_length_eq_zero (by rw [m1]; simp)
              subst this
              exact .sl0 A cap 0 a4
            · have hA := a6 (.inr (by omega)); subst hA
              obtain ⟨cur0, c1, _, _, c4⟩ := hn.row τ r (some g) hr a1
              rw [a5] at c1; cases c1
              refine VR.sl_of a5 (hvis τ g a1 hnT) a3 a4 fun j u hu => ?_
              obtain ⟨a, ha, hg⟩ := m2 j u hu
              rw [List.getElem?_take] at ha
              split at ha
              · rw [List.getElem?_drop] at ha
                obtain ⟨v, d1, d2, d3⟩ := c4 _ a ha
                exact ⟨v, d1, d2, ih.2 d3 (fun p b hb => hnest τ _ p b hb hnT) hg⟩
              · cases ha
      · rename_i cs
        rw [Option.map_eq_some_iff] at ht
        obtain ⟨cs', hcs, rfl⟩ := ht
        obtain ⟨m1, m2⟩ := mapM_get hcs
        cases hv with
        | agg vs _ hl h1 hv' =>
          refine .agg vs cs' (by rw [m1]; exact hl) h1 (fun j x y hx hy => ?_)
          obtain ⟨a, ha, hg⟩ := m2 j y hy
          exact ih.1 (hv' j x a hx ha) hg
      · cases hv
      · split at ht
        · rename_i hp
          simp only [Option.some.injEq] at ht
          exact dflt u hp rfl ht.symm
        · cases ht
    refine ⟨plain, ?_⟩
    intro v u u' F hv hF ht
    cases hv with
    | vr _ _ hv => exact plain hv ht
    | own0 e z hz =>
      simp only [St.tree] at ht
      simp at ht
      subst ht
      exact .sl0 none 0 0 (Nat.zero_le _)
    | own e z n g cap cur cells vs F' hz hg hs hn' hm hl hv' hF' hc =>
      simp only [St.tree, Option.map_eq_some_iff] at ht
      obtain ⟨cs, hcs, rfl⟩ := ht
      obtain ⟨m1, m2⟩ := mapM_get hcs
      refine VR.sl_of hg (hF [] g rfl) hn' hm fun j u hu => ?_
      obtain ⟨a, ha, hga⟩ := m2 j u hu
      obtain ⟨b1, b2⟩ := hv' j a ha
      exact ⟨vs j, by rw [Nat.zero_add]; exact b1, b2, ih.2 (hc j a ha) (fun p b hb => hF (j :: p) b hb) hga⟩
end
def Enters (P : Program) (f : FuncId) : Prop := ∀ (args : Array Value) (w : World), (callFunc f args).run P w = .ok (.enter f args) w
structure CSpec where
  ι : Type
  inout : List Bool
  args : ι → List AV
  ins : ι → List Row
  pre : ι → Prop
  post : ι → AV → List (List AV) → List Row → Prop
def upd (ins : List Row) (ic : List (List AV)) : List Row := List.zipWith (fun r c => { r with cells := c }) ins ic
def Left1 (D : Nat → Prop) (w : World) (φ : Places) (ins : List Row) (post : AV → List (List AV) → List Row → Prop) (e : Ending) (w' : World) : Prop :=
  ∃ (v : Value) (r : AV) (ic : List (List AV)) (news : List Row) (φ' : Places), e = .returned v ∧ post r ic news ∧ ic.length = ins.length ∧ (∀ c ∈ ic, resOkL c = true) ∧ (∀ n ∈ news, n.ver = 0 ∧ resOkL n.cells = true) ∧ r.resOk = true ∧
    Keeps (fun b => b < w.heap.size ∧ ¬ φ.O b) w w' ∧ SR D w' φ' [v] ⟨[r], upd ins ic ++ news, 1, 0⟩ ∧ Lows ins.length w φ w' φ' ∧ (∀ b, φ'.O b → φ.O b ∨ w.heap.size ≤ b)
def Sound (P : Program) (f : FuncId) (sp : CSpec) : Prop :=
  Enters P f ∧ ∀ x : sp.ι, sp.pre x → ∀ (D : Nat → Prop) (w : World) (vs : Array Value) (φ : Places), SR D w φ vs.toList ⟨sp.args x, sp.ins x, 1, (sp.ins x).length⟩ → (∀ r ∈ sp.ins x, r.ver = 0) →
    Calls P f vs w (Left1 D w φ (sp.ins x) (sp.post x))
def callArg (s : St) (T : List Nat) (b : Bool) (u : AV) : Option AV :=
  match u with
  | .ptr τ ver off => (AV.ptr τ ver off).ren s T
  | u => if b = true then u.ren s T else s.tree T 4 u
def callArgs (s : St) (T : List Nat) : List Bool → List AV → Option (List AV)
  | _, [] => some []
  | bs, u :: us => (callArg s T (bs.headD false) u).bind fun u' => (callArgs s T bs.tail us).map (u' :: ·)
def insOf (s : St) (T T' : List Nat) : Option (List Row) := T'.mapM fun τ => (s.rows[τ]?).bind fun r => (renL s T r.cells).map fun c => { r with ver := 0, cells := c }
def setRows : List Row → List Nat → List (List AV) → List Row
  | rows, τ :: T, c :: ic => setRows (rows.modify τ fun r => r.putC c) T ic
  | rows, _, _ => rows
def St.news (s : St) (T : List Nat) (news : List Row) : List Row := news.map fun n => ⟨s.ctr, n.ety, n.size, backL s T n.cells⟩
def St.after (s : St) (T : List Nat) (ic : List (List AV)) (news : List Row) : St :=
  { s with rows := setRows s.rows T (ic.map (backL s T)) ++ s.news T news, ctr := s.ctr + 1 }
def aCallT (P : Program) (f : FuncId) (s : St) (T : List Nat) (args : List AV) (k : AV → St → Prop) : Prop :=
  ∃ sp : CSpec, Sound P f sp ∧ ∃ us ins, T.Nodup ∧ callArgs s T sp.inout args = some us ∧ insOf s T T = some ins ∧ ∃ x, us = sp.args x ∧ ins = sp.ins x ∧ sp.pre x ∧
    ∀ r ic news, sp.post x r ic news → ic.length = T.length → k (r.back s T) (s.after T ic news)
def aCall (P : Program) (f : FuncId) (s : St) (args : List AV) (k : AV → St → Prop) : Prop := ∃ T, aCallT P f s T args k
theorem setRows_length : ∀ (T : List Nat) (ic : List (List AV)) (rows : List Row), (setRows rows T ic).length = rows.length
  | [], ic, rows => by cases ic <;> rfl
  | τ :: T, [], rows => rfl
  | τ :: T, c :: ic, rows => by rw [setRows, setRows_length]; simp
theorem setRows_get : ∀ (T : List Nat) (ic : List (List AV)) (rows : List Row) (t : Nat) (r' : Row), T.Nodup → ic.length = T.length → (setRows rows T ic)[t]? = some r' →
    ∃ r : Row, rows[t]? = some r ∧ r.ver = r'.ver ∧ r.ety = r'.ety ∧ r.size = r'.size ∧ ((t ∉ T ∧ r' = r) ∨ ∃ (i : Nat) (c : List AV), T[i]? = some t ∧ ic[i]? = some c ∧ r'.cells = c)
  | [], ic, rows, t, r', _, _, h => by
    have : setRows rows [] ic = rows := by cases ic <;> rfl
    rw [this] at h
    exact ⟨r', h, rfl, rfl, rfl, .inl ⟨by simp, rfl⟩⟩
  | τ :: T, [], rows, t, r', _, hl, h => by simp at hl
  | τ :: T, c :: ic, rows, t, r', hn, hl, h => by
    rw [setRows] at h
    simp only [Row.putC_eq] at h
    rw [List.nodup_cons] at hn
    obtain ⟨r1, a1, a2, a3, a4, a5⟩ := setRows_get T ic _ t r' hn.2 (by simpa using hl) h
    rw [List.getElem?_modify] at a1
    cases e0 : rows[t]? with
    | none => simp [e0] at a1
    | some r =>
      by_cases e : τ = t
      · subst e
        simp [e0] at a1
        subst a1
        refine ⟨r, rfl, a2, a3, a4, .inr ?_⟩
        rcases a5 with ⟨_, rfl⟩ | ⟨i, c', h1, h2, h3⟩
        · exact ⟨0, c, rfl, rfl, rfl⟩
        · exact ⟨i + 1, c', by simpa using h1, by simpa using h2, h3⟩
      · simp [e0, e] at a1
        subst a1
        refine ⟨r, rfl, a2, a3, a4, ?_⟩
        rcases a5 with ⟨h1, h2⟩ | ⟨i, c', h1, h2, h3⟩
        · exact .inl ⟨by simp only [List.mem_cons, not_or]; exact ⟨fun e' => e e'.symm, h1⟩, h2⟩
        · exact .inr ⟨i + 1, c', by simpa using h1, by simpa using h2, h3⟩
end Go.Am
