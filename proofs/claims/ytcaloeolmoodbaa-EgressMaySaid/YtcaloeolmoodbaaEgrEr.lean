/-
  egress.Out: a Run as a function, of what an outlet is without its places in memory. Pure.
-/
import Derived.Test.YtcaloeolmoodbaaEgrRunP
namespace Go.Proofs.Ytcaloeolmoodbaa.egr
open Go.RowKit mem Go.Maps
open Go.Proofs.Ytcaloeolmoodbaa.itr
set_option linter.unusedVariables false

def eB (f : drr.Fl) : drr.Fl := ⟨f.id, 0, f.share, f.left⟩
def eS (s : drr.Sc) : drr.Sc := ⟨s.most, s.L.map eB, s.turn, s.g⟩
theorem eB_upd (L : List drr.Fl) (F G : drr.Fl → Int) (h : ∀ f, F f = G (eB f)) : (drr.upd L F).map eB = drr.upd (L.map eB) G := by
  unfold drr.upd
  rw [List.map_map, List.map_map]
  refine List.map_congr_left (fun f _ => ?_)
  show eB ⟨f.id, f.b, f.share, F f⟩ = ⟨(eB f).id, (eB f).b, (eB f).share, G (eB f)⟩
  rw [h f]; rfl
theorem eB_fnd (L : List drr.Fl) (id : Int) : drr.fnd (L.map eB) id = (drr.fnd L id).map eB := by
  unfold drr.fnd
  rw [List.find?_map]
  rfl
theorem eS_left (s : drr.Sc) (id : Int) : drr.leftOf (eS s) id = drr.leftOf s id := by
  show (match drr.fnd (s.L.map eB) id with | some f => f.left | none => 0) = drr.leftOf s id
  unfold drr.leftOf
  rw [eB_fnd]
  cases drr.fnd s.L id <;> rfl
theorem eS_grant (s : drr.Sc) : eS (drr.grantS s) = drr.grantS (eS s) := by
  unfold drr.grantS
  show eS (if s.g = true then s else _) = if s.g = true then eS s else _
  split
  · rfl
  · show (⟨s.most, (drr.upd s.L _).map eB, s.turn, true⟩ : drr.Sc) = ⟨s.most, drr.upd (s.L.map eB) _, s.turn, true⟩
    exact congrArg (fun L => (⟨s.most, L, s.turn, true⟩ : drr.Sc)) (eB_upd s.L (fun f => if f.id = s.turn then f.left + f.share else f.left) (fun f => if f.id = s.turn then f.left + f.share else f.left) (fun f => rfl))
theorem eS_pass (l : drr.Hs) (s : drr.Sc) : eS (drr.passS l s) = drr.passS l (eS s) := rfl
theorem eS_beg (l : drr.Hs) (s : drr.Sc) : eS (drr.begS l s) = drr.begS l (eS s) := by
  show (⟨s.most, (drr.upd s.L _).map eB, s.turn, s.g⟩ : drr.Sc) = ⟨s.most, drr.upd (s.L.map eB) _, s.turn, s.g⟩
  exact congrArg (fun L => (⟨s.most, L, s.turn, s.g⟩ : drr.Sc)) (eB_upd s.L (drr.forgetF l) (drr.forgetF l) (fun f => rfl))
theorem eS_low (l : drr.Hs) (s : drr.Sc) : drr.lowS l (eS s) = drr.lowS l s := by
  unfold drr.lowS
  rw [← eS_grant, eS_left]
  rfl
theorem eS_run (l : drr.Hs) (s : drr.Sc) : eS (drr.runS l s) = drr.runS l (eS s) := by
  unfold drr.runS
  rw [eS_low]
  split
  · rw [eS_grant, eS_pass, eS_grant]
  · rw [eS_grant]
theorem eS_fir (l : drr.Hs) (s : drr.Sc) : eS (drr.firS l s) = drr.firS l (eS s) := by
  unfold drr.firS
  show eS (if s.turn ∈ drr.ids l then _ else _) = if s.turn ∈ drr.ids l then _ else _
  split
  · exact eS_beg _ _
  · rw [eS_pass, eS_beg]
theorem eS_choose (l : drr.Hs) (s : drr.Sc) : eS (drr.chooseS l s) = drr.chooseS l (eS s) := by
  cases l with
  | nil =>
    show (⟨s.most, (drr.upd s.L _).map eB, s.turn, false⟩ : drr.Sc) = ⟨s.most, drr.upd (s.L.map eB) _, s.turn, false⟩
    exact congrArg (fun L => (⟨s.most, L, s.turn, false⟩ : drr.Sc)) (eB_upd s.L (drr.forgetF []) (drr.forgetF []) (fun f => rfl))
  | cons x t =>
    show eS (drr.runS (x :: t) (drr.firS (x :: t) s)) = drr.runS (x :: t) (drr.firS (x :: t) (eS s))
    rw [eS_run, eS_fir]
theorem eS_take (n : Int) (s : drr.Sc) : eS (drr.takeS n s) = drr.takeS n (eS s) := by
  unfold drr.takeS
  rw [eS_left]
  show eS (if s.g = true ∧ 0 ≤ n ∧ n ≤ drr.leftOf s s.turn then _ else s) = if s.g = true ∧ 0 ≤ n ∧ n ≤ drr.leftOf s s.turn then _ else _
  split
  · show (⟨s.most, (drr.upd s.L _).map eB, s.turn, s.g⟩ : drr.Sc) = ⟨s.most, drr.upd (s.L.map eB) _, s.turn, s.g⟩
    exact congrArg (fun L => (⟨s.most, L, s.turn, s.g⟩ : drr.Sc)) (eB_upd s.L (fun f => if f.id = s.turn then f.left - n else f.left) (fun f => if f.id = s.turn then f.left - n else f.left) (fun f => rfl))
  · rfl

def eF (f : Ef) : Ef := ⟨f.id, 0, f.video, 0, .slice none 0 0, f.q⟩
def eE (e : Eo) : Eo := ⟨e.frames, e.bytes, e.age, e.most, e.guard, e.credit, e.row, e.L.map eF, eS e.s⟩
theorem eF_fnd (L : List Ef) (id : Int) : fnd (L.map eF) id = (fnd L id).map eF := by
  unfold fnd
  rw [List.find?_map]
  rfl
theorem eF_nx (L : List Ef) (l : List Int) : nx (L.map eF) l = nx L l := by
  have h : stepN (L.map eF) = stepN L := by
    funext s id
    unfold stepN
    rw [eF_fnd]
    cases fnd L id <;> rfl
  unfold nx
  rw [h]
theorem eF_setQ (L : List Ef) (id : Int) (pv pv' : Value) (q : que.Q) : (setQ L id pv q).map eF = (setQ (L.map eF) id pv' q).map eF := by
  unfold setQ
  rw [List.map_map, List.map_map, List.map_map]
  refine List.map_congr_left (fun f _ => ?_)
  show eF (if f.id = id then _ else f) = eF (if f.id = id then _ else eF f)
  split <;> rfl
def nextI (ids : List Int) (e : Eo) : Int × Bool × drr.Sc :=
  if (nx e.L ids).b.isSome = true ∧ (e.row < e.guard ∨ (nx e.L ids).H = []) then ((sdef (nx e.L ids).b).id, true, e.s)
  else if (nx e.L ids).H = [] then (0, false, drr.chooseS [] e.s)
  else ((drr.chooseS (nx e.L ids).H e.s).turn, true, drr.chooseS (nx e.L ids).H e.s)
theorem nextI_er (ids : List Int) (e : Eo) : nextI ids (eE e) = ((nextI ids e).1, (nextI ids e).2.1, eS (nextI ids e).2.2) := by
  unfold nextI
  show (if (nx (e.L.map eF) ids).b.isSome = true ∧ (e.row < e.guard ∨ (nx (e.L.map eF) ids).H = []) then ((sdef (nx (e.L.map eF) ids).b).id, true, eS e.s)
  else if (nx (e.L.map eF) ids).H = [] then (0, false, drr.chooseS [] (eS e.s))
  else ((drr.chooseS (nx (e.L.map eF) ids).H (eS e.s)).turn, true, drr.chooseS (nx (e.L.map eF) ids).H (eS e.s))) = _
  rw [eF_nx, ← eS_choose, ← eS_choose]
  split
  · rfl
  · split <;> rfl
def afterI (ids : List Int) (e : Eo) : Eo := ⟨e.frames, e.bytes, e.age, e.most, e.guard, e.credit, e.row, e.L, (nextI ids e).2.2⟩
theorem after_er (ids : List Int) (e : Eo) : afterI ids (eE e) = eE (afterI ids e) := by
  unfold afterI
  rw [nextI_er]; rfl
def goneI (ids : List Int) (e : Eo) (f : Ef) (x : que.It) : Eo := countE ⟨e.frames, e.bytes, e.age, e.most, e.guard, e.credit, e.row, setQ e.L f.id (.slice none 0 0) ⟨f.q.frames, f.q.most, f.q.L.drop 1, f.q.broken⟩, (nextI ids e).2.2⟩ x.size f.video
theorem gone_er (e : Eo) (f : Ef) (x : que.It) (pv : Value) : eE (goneE e f x pv) = eE (goneI (idS e.L) (eE e) (eF f) x) := by
  unfold goneE goneI countE
  rw [nextI_er]
  show eE (if f.video = true then _ else _) = eE (if f.video = true then _ else _)
  have h1 := eF_setQ e.L f.id pv (.slice none 0 0) ⟨f.q.frames, f.q.most, f.q.L.drop 1, f.q.broken⟩
  split
  · unfold eE
    dsimp only
    rw [h1, eS_take, eS_take]
    congr 1
    unfold eS
    dsimp only
    rw [List.map_map]
    congr 1
  · unfold eE
    dsimp only
    rw [h1]
    congr 1
    unfold eS
    dsimp only
    rw [List.map_map]
    congr 1
/-- one item goes -/
def stepR (ids : List Int) (e : Eo) : Option (Snt × Eo) :=
  if (nextI ids e).2.1 = true then
    match fnd e.L (nextI ids e).1 with
    | none => none
    | some f => match f.q.L with
      | [] => none
      | x :: _ => if e.credit < x.size then none else some (⟨f.id, x⟩, eE (goneI ids e f x))
  else none
def runR (ids : List Int) : Nat → Eo → List Snt × Eo
  | 0, e => ([], afterI ids e)
  | n + 1, e => match stepR ids e with
    | none => ([], afterI ids e)
    | some (s, e') => (s :: (runR ids n e').1, (runR ids n e').2)
def Nd (L : List Ef) : Prop := (L.map (·.id)).Pairwise (· ≠ ·)
theorem Ap.nd {L : List Ef} (h : Ap L) : Nd L := List.pairwise_map.2 (h.imp (fun h => h.1))
theorem Nd.fnd {L : List Ef} (h : Nd L) {f : Ef} (hf : f ∈ L) : egr.fnd L f.id = some f := by
  have h2 := List.pairwise_map.1 h
  clear h
  induction L with
  | nil => cases hf
  | cons g l ih =>
    obtain ⟨h3, h4⟩ := List.pairwise_cons.1 h2
    unfold egr.fnd at ih ⊢
    rw [List.find?_cons]
    rcases List.mem_cons.1 hf with e | hf
    · subst e; simp
    · have : (g.id == f.id) = false := by simpa using h3 f hf
      rw [this]
      exact ih hf h4
theorem Steps.nd {e e1 : Eo} {l : List Snt} (h : Steps e l e1) (hn : Nd e.L) : Nd e1.L ∧ idS e1.L = idS e.L := by
  induction h with
  | nil => exact ⟨hn, rfl⟩
  | snoc pv h1 h2 h3 h4 h5 h6 ih =>
    obtain ⟨i1, i2⟩ := ih
    refine ⟨?_, by rw [gone_L, setQ_idS]; exact i2⟩
    unfold Nd at i1 ⊢
    rw [gone_L, setQ_idm]
    exact i1
theorem eE_id (e : Eo) : idS (eE e).L = idS e.L := by
  show idS (e.L.map eF) = _
  unfold idS
  rw [List.map_map]; rfl
theorem stepR_some {e1 : Eo} (hn : Nd e1.L) {f : Ef} {x : que.It} (pv : Value) (h2 : (nextS e1).2.1 = true) (h3 : f ∈ e1.L) (h4 : f.id = (nextS e1).1) (h5 : f.q.L[0]? = some x) (h6 : x.size ≤ e1.credit) : stepR (idS e1.L) (eE e1) = some (⟨f.id, x⟩, eE (goneE e1 f x pv)) := by
  have hs : nextS e1 = nextI (idS e1.L) e1 := rfl
  unfold stepR
  rw [nextI_er, ← hs]
  dsimp only
  rw [if_pos h2, ← h4]
  show (match egr.fnd (e1.L.map eF) f.id with | none => none | some f' => _) = _
  rw [eF_fnd, hn.fnd h3, gone_er e1 f x pv]
  show (match f.q.L with | [] => none | y :: _ => _) = _
  cases hq : f.q.L with
  | nil => rw [hq] at h5; cases h5
  | cons y t =>
    rw [hq] at h5
    obtain rfl : y = x := by simpa using h5
    show (if e1.credit < y.size then none else _) = _
    rw [if_neg (by omega)]
    rfl
theorem stepR_none {e1 : Eo} (hn : Nd e1.L) (h : (nextS e1).2.1 = false ∨ ∃ f x, (nextS e1).2.1 = true ∧ f ∈ e1.L ∧ f.id = (nextS e1).1 ∧ f.q.L[0]? = some x ∧ e1.credit < x.size) : stepR (idS e1.L) (eE e1) = none := by
  have hs : nextS e1 = nextI (idS e1.L) e1 := rfl
  unfold stepR
  rw [nextI_er, ← hs]
  dsimp only
  rcases h with h | ⟨f, x, h2, h3, h4, h5, h6⟩
  · rw [if_neg (by rw [h]; decide)]
  · rw [if_pos h2, ← h4]
    show (match egr.fnd (e1.L.map eF) f.id with | none => none | some f' => _) = _
    rw [eF_fnd, hn.fnd h3]
    show (match f.q.L with | [] => none | y :: _ => _) = _
    cases hq : f.q.L with
    | nil => rfl
    | cons y t =>
      rw [hq] at h5
      obtain rfl : y = x := by simpa using h5
      show (if e1.credit < y.size then none else _) = _
      rw [if_pos h6]
theorem Steps.run {e e1 : Eo} {l : List Snt} (h : Steps e l e1) (hn : Nd e.L) : ∀ m, runR (idS e.L) (l.length + m) (eE e) = (l ++ (runR (idS e.L) m (eE e1)).1, (runR (idS e.L) m (eE e1)).2) := by
  induction h with
  | nil => intro m; simp
  | snoc pv h1 h2 h3 h4 h5 h6 ih =>
    intro m
    obtain ⟨i1, i2⟩ := h1.nd hn
    have hst := stepR_some i1 pv h2 h3 h4 h5 h6
    rw [i2] at hst
    rw [List.length_append, List.length_singleton, Nat.add_assoc, ih (1 + m), Nat.add_comm 1 m]
    show (_ ++ (match stepR _ _ with | none => _ | some (s, e') => _ : List Snt × Eo).1, (match stepR _ _ with | none => _ | some (s, e') => _ : List Snt × Eo).2) = _
    rw [hst]
    simp
/-- a Run is what the function says -/
theorem Ran.run {e e' : Eo} {l : List Snt} (h : Ran e l e') (hn : Nd e.L) (m : Nat) : runR (idS e.L) (l.length + m) (eE e) = (l, eE e') := by
  obtain ⟨e1, h1, rfl, h2⟩ := h
  obtain ⟨i1, i2⟩ := h1.nd hn
  have hst := stepR_none i1 h2
  rw [i2] at hst
  have hs : afterI (idS e.L) (eE e1) = eE (afterN e1) := by rw [after_er, ← i2]; rfl
  rw [h1.run hn]
  cases m with
  | zero =>
    show (l ++ [], afterI (idS e.L) (eE e1)) = _
    rw [List.append_nil, hs]
  | succ m =>
    show (l ++ (match stepR _ _ with | none => _ | some (s, e') => _ : List Snt × Eo).1, (match stepR _ _ with | none => _ | some (s, e') => _ : List Snt × Eo).2) = _
    rw [hst]
    show (l ++ [], afterI (idS e.L) (eE e1)) = _
    rw [List.append_nil, hs]
end Go.Proofs.Ytcaloeolmoodbaa.egr
