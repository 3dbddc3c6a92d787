/-
  ReorderPerm: the law.
-/
import Derived.Test.YtodnalkgbnkdjaaReoPermP
namespace Go.Proofs.Ytodnalkgbnkdjaa.reo
open Go.RowKit mem Go.Maps
open ints (IE IT infoI)
set_option linter.unusedVariables false

/-- the first loop: what was counted, what stands in the order -/
structure Ord1 (i : Nat) (f : Int → Int) (o : List Int) : Prop where
  f0 : ∀ j, 0 ≤ f j
  f1 : ∀ j, f j ≤ (i : Int)
  nd : o.Nodup
  rg : ∀ j ∈ o, 1 ≤ j ∧ j ≤ 60
  mem : ∀ j, f j ≠ 0 ↔ j ∈ o
  len : o.length ≤ i
theorem Ord1.first : Ord1 0 (fun _ => 0) [] := ⟨fun _ => Int.le_refl 0, fun _ => Int.le_refl 0, List.nodup_nil, fun j hj => by simp at hj, fun j => by simp, Nat.le_refl 0⟩
theorem Ord1.again {i : Nat} {f : Int → Int} {o : List Int} (h : Ord1 i f o) (k : Int) (hk : f k ≠ 0) : Ord1 (i + 1) (upF f k) o := by
  refine ⟨fun j => ?_, fun j => ?_, h.nd, h.rg, fun j => ?_, by have := h.len; omega⟩
  · unfold upF; have := h.f0 j; have := h.f0 k; split <;> omega
  · unfold upF; have := h.f1 j; have := h.f1 k; split <;> omega
  · unfold upF
    split
    next e => subst e; have := h.f0 j; exact ⟨fun _ => (h.mem j).1 hk, fun _ => by omega⟩
    next => exact h.mem j
theorem Ord1.fresh {i : Nat} {f : Int → Int} {o : List Int} (h : Ord1 i f o) (k : Int) (k1 : 1 ≤ k) (k2 : k ≤ 60) (hk : f k = 0) : Ord1 (i + 1) (upF f k) (o ++ [k]) := by
  have hno : k ∉ o := fun e => (h.mem k).2 e hk
  refine ⟨fun j => ?_, fun j => ?_, ?_, fun j hj => ?_, fun j => ?_, by have := h.len; rw [List.length_append, List.length_singleton]; omega⟩
  · unfold upF; have := h.f0 j; have := h.f0 k; split <;> omega
  · unfold upF; have := h.f1 j; have := h.f1 k; split <;> omega
  · rw [List.nodup_append]
    refine ⟨h.nd, List.nodup_cons.2 ⟨by simp, List.nodup_nil⟩, fun a ha b hb e => ?_⟩
    rw [List.mem_singleton.1 hb] at e
    exact hno (e ▸ ha)
  · rcases List.mem_append.1 hj with hj | hj
    · exact h.rg j hj
    · rw [List.mem_singleton.1 hj]; exact ⟨k1, k2⟩
  · unfold upF
    split
    next e => subst e; exact ⟨fun _ => by simp, fun _ => by omega⟩
    next e =>
      rw [h.mem j]
      simp [e]
/-- the second loop: below n all stand in it -/
structure Ord2 (n : Int) (f : Int → Int) (o : List Int) : Prop where
  nd : o.Nodup
  rg : ∀ j ∈ o, 1 ≤ j ∧ j ≤ 60
  mem : ∀ j, 1 ≤ j → j ≤ 60 → (j ∈ o ↔ (f j ≠ 0 ∨ j < n))
  len : (o.length : Int) ≤ 60 + n
theorem Ord1.second {i : Nat} {f : Int → Int} {o : List Int} (h : Ord1 i f o) (hi : i ≤ 60) : Ord2 1 f o :=
  ⟨h.nd, h.rg, fun j j1 j2 => by rw [← h.mem j]; exact ⟨.inl, fun k => k.elim id (fun e => by omega)⟩, by have := h.len; omega⟩
theorem Ord2.there {n : Int} {f : Int → Int} {o : List Int} (h : Ord2 n f o) (hn : f n ≠ 0) : Ord2 (n + 1) f o :=
  ⟨h.nd, h.rg, fun j j1 j2 => by
    rw [h.mem j j1 j2]
    constructor
    · rintro (k | k)
      · exact .inl k
      · exact .inr (by omega)
    · rintro (k | k)
      · exact .inl k
      · by_cases e : j = n
        · subst e; exact .inl hn
        · exact .inr (by omega), by have := h.len; omega⟩
theorem Ord2.fresh {n : Int} {f : Int → Int} {o : List Int} (h : Ord2 n f o) (n1 : 1 ≤ n) (n2 : n ≤ 60) (hn : f n = 0) : Ord2 (n + 1) f (o ++ [n]) := by
  have hno : n ∉ o := fun e => by
    rcases (h.mem n n1 n2).1 e with k | k
    · exact k hn
    · omega
  refine ⟨?_, fun j hj => ?_, fun j j1 j2 => ?_, by have := h.len; rw [List.length_append, List.length_singleton]; push_cast; omega⟩
  · rw [List.nodup_append]
    refine ⟨h.nd, List.nodup_cons.2 ⟨by simp, List.nodup_nil⟩, fun a ha b hb e => ?_⟩
    rw [List.mem_singleton.1 hb] at e
    exact hno (e ▸ ha)
  · rcases List.mem_append.1 hj with hj | hj
    · exact h.rg j hj
    · rw [List.mem_singleton.1 hj]; exact ⟨n1, n2⟩
  · rw [List.mem_append, h.mem j j1 j2, List.mem_singleton]
    constructor
    · rintro ((k | k) | k)
      · exact .inl k
      · exact .inr (by omega)
      · exact .inr (by omega)
    · rintro (k | k)
      · exact .inl (.inl k)
      · by_cases e : j = n
        · exact .inr e
        · exact .inl (.inr (by omega))

set_option maxRecDepth 10000 in
set_option maxHeartbeats 4000000 in
theorem perm_law (ao : Option Addr) (n c : Nat) (z : Nat → Int) (W : World) (h : args.IntRow .i64 W ao n c z) :
    Calls Try.prog 5 #[.slice ao n c] W fun e W' => e = .returned (.bool true) ∧ Below W.heap.size W W' := by
  have HA := Lib.hid (awake W)
  have HN := Lib.hid (fun w (n : New W w) => new_own 64 10 W w n (by decide))
  obtain ⟨hn, _, hrow⟩ := h
  have HROW := Lib.hid hrow
  clear hrow
  unfold maxLen at hn
  go_enter Try.func5, Try.ntmps5
  go_wp2_with fail
  refine HA.out.mono ?_
  rintro e w1 ⟨rfl, n1⟩
  have HN1 := Lib.hid (HN.out w1 n1)
  clear n1 HA HN
  go_wp2_with fail
  refine HN1.out.mono ?_
  rintro e w2 ⟨p, rfl, o2⟩
  have O2 := Lib.hid o2
  clear o2 HN1
  go_wp2_with fail
  refine (own_put (M := 1000) (th 100) O2.out (zero_fine (by decide) (by decide)) (by decide) (by decide) (by decide) (by decide) (by decide)).mono ?_
  rintro e w3 ⟨v3, ax, cx, rfl, o3, t3⟩
  have O3 := Lib.hid o3
  change Hid (Own W w3 p v3 b100) at O3
  generalize (putO (zeroB 64 10) (th 100)).length = ox at *
  generalize putE (zeroB 64 10) (th 100) = ex at *
  clear o3 t3 O2
  have HM0 : Hid (((w3.alloc (.cells #[] IT)).alloc (.map #[] 0)).ownsMap Try.prog 3 (plainElem (H := Unit) Try.prog 3) (w3.heap.size + 1) 0 (.map [])) := Lib.hid (by
    have e : w3.heap.size + 1 = (w3.alloc (.cells #[] IT)).heap.size := by simp
    rw [e]
    exact World.ownsMap_made _ _ _ _)
  have H0 : Hid (Ph W ((w3.alloc (.cells #[] IT)).alloc (.map #[] 0)) p v3 b100 (w3.heap.size + 1) 0 (.map []) (.slice (some ⟨w3.heap.size, 0, none⟩) 0 0) []) := Lib.hid ⟨(O3.out.later ((Turns.refl _ _).alloc _)).later ((Turns.refl _ _).alloc _), HM0.out, (by have := O3.out.n.size; omega), (ints.Owns.made0 (Blk.new _ _ _)).turns (S := fun _ => False) ((Turns.refl _ _).alloc _) (fun _ _ h => h), fun g hg => by
    have e : w3.heap.size = g := by simpa [Value.ownBlock] using hg
    have := O3.out.n.size
    omega⟩
  have hmm := @run_makeMap Try.prog
  go_upto_region 9 with fail
  clear hmm
  refine (show Code.wp _ _ _ _ ((w3.alloc (.cells #[] IT)).alloc (.map #[] 0)) from ?_)
  generalize (w3.alloc (.cells #[] IT)).alloc (.map #[] 0) = w4 at *
  generalize w3.heap.size + 1 = mb at *
  generalize w3.heap.size = ob at *
  clear HM0 O3
  go_wp2_with fail
  go_loopw [5, 7] (fun vo i wr => ∃ (i' mn : Nat) (D : DataW Unit) (f : Int → Int) (o : List Int), i' ≤ 60 ∧ i' ≤ n ∧ i = .int .i64 i' ∧ mn ≤ i' ∧ Ph W wr p v3 b100 mb mn D vo o ∧ Mp D f ∧ Ord1 i' f o) (fun _ i _ => 60 - (intOf i).toNat)
  case atStart => exact ⟨0, 0, _, _, _, by omega, by omega, rfl, by omega, H0.out, Mp.first, Ord1.first⟩
  case round =>
    obtain ⟨i, mn, D, f, o, hi, hin, rfl, hmn, hp, hm, hr⟩ := hrel
    have HP := Lib.hid hp
    have HM := Lib.hid hm
    have HR := Lib.hid hr
    clear H0 hp hm hr
    by_cases hgo : i < n ∧ i < 60
    · obtain ⟨h1, h2⟩ := hgo
      obtain ⟨b0, off, rfl, hb, hc⟩ := HROW.out.resolve_left (by omega)
      have e0 := (HP.out.own.n.cell (a := ⟨b0, off + i, none⟩) hb (fun h => h)).trans (hc i h1)
      have M8 := mask.mask8 (z i)
      generalize z i = zi at *
      obtain ⟨m, hm, hm1⟩ : ∃ m : Nat, zi % 256 = (m : Int) ∧ m ≤ 255 := ⟨(zi % 256).toNat, by omega, by omega⟩
      rw [hm] at M8
      have d1 : decide ((i : Int) < (n : Int)) = true := decide_eq_true (by omega)
      have d2 : decide ((i : Int) < 60) = true := decide_eq_true (by omega)
      have j2 : (i : Int) < (n : Int) := by omega
      obtain ⟨kk, hkk, kk1, kk2⟩ : ∃ kk : Int, 1 + (m : Int) % 60 = kk ∧ 1 ≤ kk ∧ kk ≤ 60 := ⟨1 + (m : Int) % 60, rfl, by omega, by omega⟩
      have HKEY := Lib.hid (keyI (n := kk) (by omega) (by omega))
      have HAT := Lib.hid (HM.out.at_ kk)
      have HM2 := Lib.hid (HM.out.put kk)
      have HAT2 := Lib.hid ((HM.out.put kk).at_ kk)
      have hup : upF f kk kk = f kk + 1 := by unfold upF; rw [if_pos rfl]
      rw [hup] at HAT2
      have HR2 : Hid (∀ hz : f kk = 0, Ord1 (i + 1) (upF f kk) (o ++ [kk])) := Lib.hid (fun hz => HR.out.fresh kk kk1 kk2 hz)
      have HR3 : Hid (∀ hz : f kk ≠ 0, Ord1 (i + 1) (upF f kk) o) := Lib.hid (fun hz => HR.out.again kk hz)
      have fb0 := HR.out.f0 kk
      have fb1 := HR.out.f1 kk
      have hlen := HR.out.len
      have HEL := Lib.hid (elemC (n := f kk + 1) (by omega) (by omega))
      have hmm : mn < maxLen := by unfold maxLen; omega
      have HMN := Lib.hid hmm
      clear hmm hup hc
      generalize hfk : f kk = fk at *
      have HFK := Lib.hid hfk
      clear hfk
      have s1 : IntKind.i64.wrap (fk + 1) = fk + 1 := IntWalk.i64_in _ (by omega)
      go_wp2_with (first
        | (at_lookup; refine wpList_look_int rfl _ _ 56 rfl 3 3 .i64 lawI Try.underlying56 Try.underlying3 (zeroI _) mb mn D rfl HP.out.m _ _ rfl HKEY.out _ HAT.out ?_)
        | (at_mapUpdate; refine wpList_mapUpdate_own _ rfl _ _ _ 56 rfl 3 3 lawI Try.underlying56 (plainElem Try.prog 3) mb mn D rfl HP.out.m HMN.out _ _ _ rfl rfl HKEY.out _ [] HEL.out ?_))
      intro wm hownm hgrowm
      have HP2 := Lib.hid (HP.out.put hownm hgrowm)
      clear hownm hgrowm e0
      by_cases hz : fk = 0
      · have hz1 : (fk + 1 == 1) = true := by simp [hz]
        have HZ := Lib.hid hz
        clear hz
        go_wp2_with (first
          | (at_lookup; refine wpList_look_int rfl _ _ 56 rfl 3 3 .i64 lawI Try.underlying56 Try.underlying3 (zeroI _) mb (mn + 1) _ rfl HP2.out.m _ _ rfl HKEY.out _ HAT2.out ?_)
          | (at_builtin; refine wpList_append_one (E := IE) Try.underlying47 infoI rfl (by decide) (by decide) rfl _ _ rfl _ o kk rfl (HP2.out.ro.turns (S := fun _ => False) ((Turns.refl _ _).alloc _) (fun _ _ h => h)) wm.heap.size rfl (heap_alloc_new wm _) (by omega) ?_; intro v6 w6 hown6 hgrow6 hat6))
        have HP6 := Lib.hid (HP2.out.push hown6 hgrow6 hat6)
        clear hown6 hgrow6 hat6
        go_wp2_with fail
        go_roundw
        case rel => exact ⟨i + 1, mn + 1, _, _, _, by omega, by omega, by go_num, by omega, HP6.out, HM2.out, HR2.out HZ.out⟩
        case measure => simp [intOf]; omega
      · have hz1 : (fk + 1 == 1) = false := by simp; omega
        have HZ := Lib.hid hz
        clear hz
        go_wp2_with (at_lookup; refine wpList_look_int rfl _ _ 56 rfl 3 3 .i64 lawI Try.underlying56 Try.underlying3 (zeroI _) mb (mn + 1) _ rfl HP2.out.m _ _ rfl HKEY.out _ HAT2.out ?_)
        go_roundw
        case rel => exact ⟨i + 1, mn + 1, _, _, _, by omega, by omega, by go_num, by omega, HP2.out, HM2.out, HR3.out HZ.out⟩
        case measure => simp [intOf]; omega
    · have hx : ¬ i < n ∨ (i < n ∧ ¬ i < 60) := by omega
      have HR4 := Lib.hid (HR.out.second hi)
      clear hgo hin HR
      go_upto_region 10 with fail
      go_cut [40] (fun v wx => v = .bool false ∧ wx = wr)
      case first =>
        rcases hx with h1 | ⟨h1, h2⟩
        · have d1 : decide ((i : Int) < (n : Int)) = false := decide_eq_false (by omega)
          go_wp2_with fail
          go_meet
          case rel => exact ⟨rfl, rfl⟩
        · have d1 : decide ((i : Int) < (n : Int)) = true := decide_eq_true (by omega)
          have d2 : decide ((i : Int) < 60) = false := decide_eq_false (by omega)
          go_wp2_with fail
          go_meet
          case rel => exact ⟨rfl, rfl⟩
      case rest =>
        obtain ⟨rfl, rfl⟩ := hcut
        clear hx
        go_wp2_with fail
        go_loopw [5, 9] (fun vo i wr => ∃ (q : Int) (o : List Int), 1 ≤ q ∧ q ≤ 61 ∧ i = .int .i64 q ∧ Ph W wr p v3 b100 mb mn D vo o ∧ Ord2 q f o) (fun _ i _ => (61 - intOf i).toNat)
        case atStart => exact ⟨1, o, by omega, by omega, rfl, HP.out, HR4.out⟩
        case round =>
          obtain ⟨q, o2, q1, q2, rfl, hp, hr⟩ := hrel
          have HP2 := Lib.hid hp
          have HR := Lib.hid hr
          clear hp hr HP HR4
          by_cases hgo : q ≤ 60
          · have d1 : decide (q ≤ 60) = true := decide_eq_true hgo
            have HKEY := Lib.hid (keyI (n := q) (by omega) (by omega))
            have HAT := Lib.hid (HM.out.at_ q)
            have hlen := HR.out.len
            have s1 : IntKind.i64.wrap (q + 1) = q + 1 := IntWalk.i64_in _ (by omega)
            by_cases hz : f q = 0
            · have HR2 := Lib.hid (HR.out.fresh q1 hgo hz)
              rw [hz] at HAT
              clear hz
              go_wp2_with (first
                | (at_lookup; refine wpList_look_int rfl _ _ 56 rfl 3 3 .i64 lawI Try.underlying56 Try.underlying3 (zeroI _) mb mn D rfl HP2.out.m _ _ rfl HKEY.out _ HAT.out ?_)
                | (at_builtin; refine wpList_append_one (E := IE) Try.underlying47 infoI rfl (by decide) (by decide) rfl _ _ rfl _ o2 q rfl (HP2.out.ro.turns (S := fun _ => False) ((Turns.refl _ _).alloc _) (fun _ _ h => h)) wr.heap.size rfl (heap_alloc_new wr _) (by omega) ?_; intro v6 w6 hown6 hgrow6 hat6))
              have HP6 := Lib.hid (HP2.out.push hown6 hgrow6 hat6)
              clear hown6 hgrow6 hat6
              go_wp2_with fail
              go_roundw
              case rel => exact ⟨q + 1, _, by omega, by omega, rfl, HP6.out, HR2.out⟩
              case measure => simp [intOf]; omega
            · have HR2 := Lib.hid (HR.out.there hz)
              generalize hfk : f q = fk at *
              clear hfk
              have hz1 : (fk == 0) = false := by simp [hz]
              clear hz
              go_wp2_with (at_lookup; refine wpList_look_int rfl _ _ 56 rfl 3 3 .i64 lawI Try.underlying56 Try.underlying3 (zeroI _) mb mn D rfl HP2.out.m _ _ rfl HKEY.out _ HAT.out ?_)
              go_roundw
              case rel => exact ⟨q + 1, _, by omega, by omega, rfl, HP2.out, HR2.out⟩
              case measure => simp [intOf]; omega
          · obtain rfl : q = 61 := by omega
            clear hgo
            have HALL : Hid (∀ j : Int, 1 ≤ j → j ≤ 60 → j ∈ o2) := Lib.hid (fun j j1 j2 => (HR.out.mem j j1 j2).2 (.inr (by omega)))
            have HND := Lib.hid (And.intro HR.out.nd HR.out.rg)
            have hol := HR.out.len
            have HO2 := Lib.hid HP2.out.own
            have HRO := Lib.hid HP2.out.ro
            obtain ⟨av, cv, hvo, hcv, _, _⟩ := HRO.out.form
            clear HP2 HR HM hi hmn
            subst hvo
            generalize hlen : o2.length = len at *
            have HLEN := Lib.hid hlen
            clear hlen
            have d61 : decide ((61 : Int) ≤ 60) = false := rfl
            go_wp2_with fail
            go_loopw [10, 76] (fun a i wx => ∃ (k : Nat) (b : B) (v : Value), k ≤ len ∧ i = .int .i64 k ∧ a = .int .i64 b.next ∧ Own W wx p v b ∧ Owns IE IT wx (.slice av len cv) o2 ∧ Rx b (o2.take k)) (fun _ i _ => len - (intOf i).toNat)
            case atStart => exact ⟨0, b100, v3, by omega, rfl, rfl, HO2.out, HRO.out, rx0⟩
            case round =>
              obtain ⟨k, b, v, hk, rfl, rfl, ho, hro, hx⟩ := hrel
              have O5 := Lib.hid ho
              have R5 := Lib.hid hro
              have X5 := Lib.hid hx
              clear HO2 HRO ho hx
              by_cases hlt : k < len
              · obtain ⟨n, hn⟩ : ∃ n, o2[k]? = some n := ⟨_, List.getElem?_eq_getElem (by have := HLEN.out; omega)⟩
                have hnm := List.mem_of_getElem? hn
                obtain ⟨n1, n2⟩ := HND.out.2 n hnm
                have hno : n ∉ o2.take k := by
                  intro e
                  obtain ⟨i, hi, he⟩ := List.getElem_of_mem e
                  rw [List.length_take] at hi
                  rw [List.getElem_take] at he
                  obtain ⟨hk', he'⟩ := List.getElem?_eq_some_iff.1 hn
                  have := (List.getElem_inj HND.out.1).1 (he.trans he'.symm)
                  omega
                obtain ⟨hE, hX', hnx, hout⟩ := X5.out.put n n1 n2 hno
                have htk : o2.take (k + 1) = o2.take k ++ [n] := by rw [List.take_add_one, hn]; rfl
                rw [← htk] at hX'
                have X6 := Lib.hid hX'
                have hb6 := hX'.fine.ok.n2
                have hb5 := X5.out.nx
                obtain ⟨av', cv', hvo, _, hrd, _⟩ := hro.form
                rw [HLEN.out] at hvo
                injection hvo with e1 _ e3
                subst e1 e3
                rcases hrd with h0 | ⟨g, rfl, hg, hcell⟩
                · rw [h0] at hn; simp at hn
                have z0 : wr.cell? ⟨g, k, none⟩ = some (.int .i64 n) := by simpa [IE] using hcell k n hn 0 _ rfl
                have d1 : decide ((k : Int) < (len : Int)) = true := decide_eq_true (by omega)
                have j2 : (k : Int) < (len : Int) := by omega
                have s1 : IntKind.i64.wrap (100 + n) = 100 + n := IntWalk.i64_in _ (by omega)
                have HOUT := Lib.hid hout
                clear hn hnm hno htk hX' hro hcell hout
                go_wp2_with fail
                refine (own_put (th (100 + n)) O5.out X5.out.fine (by decide) (by show (0 : Int) ≤ 100 + n; omega) (by show 100 + n ≤ (1000 : Int); omega) (Int.le_refl 0) (by show (0 : Int) ≤ _; decide)).mono ?_
                rintro e w4 ⟨v4, a4, c4, rfl, o4, t4⟩
                have O6 := Lib.hid o4
                have R6 := Lib.hid (ro_two t4 O5.out.bs R5.out)
                have T6 := Lib.hid t4.out
                rw [hE]
                generalize hob : putO b (th (100 + n)) = ob at *
                generalize hbb : putB b (th (100 + n)) = bb at *
                clear o4 t4 z0 hob hbb hE
                generalize hlo : ob.length = lo at *
                have HLO := Lib.hid hlo
                clear hlo
                have HNX := Lib.hid hnx
                have hnb : b.next + (lo : Int) ≤ 1001 := by omega
                clear hnx hb6
                generalize b.next = nx at *
                go_wp2_with fail
                go_loopw [10, 92] (fun a i wx => ∃ j : Nat, j ≤ lo ∧ i = .int .i64 j ∧ a = .int .i64 (nx + (j : Int)) ∧ New w4 wx) (fun _ i _ => lo - (intOf i).toNat)
                case atStart => exact ⟨0, by omega, rfl, by simp, Turns.refl _ _⟩
                case round =>
                  obtain ⟨j, hj, rfl, rfl, hn4⟩ := hrel
                  have N4 := Lib.hid hn4
                  by_cases hjl : j < lo
                  · obtain ⟨y, hy⟩ : ∃ y, ob[j]? = some y := ⟨_, List.getElem?_eq_getElem (by have := HLO.out; omega)⟩
                    have hya := HOUT.out j y hy
                    obtain ⟨a5, c5, hvo, _, hrd, _⟩ := (T6.out.turns hn4 (fun _ _ h => h)).form
                    rw [HLO.out] at hvo
                    injection hvo with e1 _ e3
                    subst e1 e3
                    rcases hrd with h0 | ⟨g5, rfl, hg5, hcell⟩
                    · rw [h0] at hy; simp at hy
                    have y0 := hcell j y hy 0 _ rfl
                    have y1 := hcell j y hy 1 _ rfl
                    have y2 := hcell j y hy 2 _ rfl
                    rw [hya] at y0
                    change wr.cell? ⟨g5, j * 3, none⟩ = some (.int .i64 (nx + (j : Int))) at y0
                    change wr.cell? ⟨g5, j * 3 + 1, none⟩ = some (.string y.tx) at y1
                    change wr.cell? ⟨g5, j * 3 + 2, none⟩ = some (.int .i64 y.tick) at y2
                    have d5 : decide ((j : Int) < (lo : Int)) = true := decide_eq_true (by omega)
                    have j5 : (j : Int) < (lo : Int) := by omega
                    have s5 : IntKind.i64.wrap (nx + (j : Int) + 1) = nx + (j : Int) + 1 := IntWalk.i64_in _ (by omega)
                    have N5 : Hid (New w4 (wr.alloc (.cells #[.int .i64 (nx + (j : Int)), .string y.tx, .int .i64 y.tick] PT))) := Lib.hid (N4.out.alloc _)
                    clear hcell hy hya hn4
                    go_wp2_with fail
                    go_roundw
                    case rel => exact ⟨j + 1, by omega, by go_num, by push_cast; go_num, N5.out⟩
                    case measure => simp [intOf]; omega
                  · obtain rfl : j = lo := by omega
                    have d5 : decide ((j : Int) < (j : Int)) = false := decide_eq_false (by omega)
                    have O7 := Lib.hid (O6.out.later hn4)
                    have R7 := Lib.hid (R6.out.turns hn4 (fun _ _ h => h))
                    clear hjl hn4
                    go_wp2_with fail
                    go_roundw
                    case rel => exact ⟨k + 1, bb, v4, by omega, by go_num, by rw [HNX.out], O7.out, R7.out, X6.out⟩
                    case measure => simp [intOf]; omega
              · obtain rfl : k = len := by omega
                have d1 : decide ((k : Int) < (k : Int)) = false := decide_eq_false (by omega)
                have hxx := X5.out
                rw [← HLEN.out, List.take_length] at hxx
                obtain ⟨hn161, hL⟩ := hxx.end_ HALL.out
                have hbg := begin_same (th 130) hxx.begun
                have hE : putE b (th 130) = 13 := by unfold putE; rw [hbg, if_pos (by show (130 : Int) < b.next; omega)]
                have HB : Hid (putB b (th 130) = b) := Lib.hid (by unfold putB; rw [hE, if_neg (by decide), hbg])
                have HXX := Lib.hid hxx
                have HLL : Hid (b.L.length = 0) := Lib.hid (by rw [hL]; rfl)
                rw [hn161]
                clear hxx hL hbg hn161 hlt hro
                go_wp2_with fail
                refine (own_put (th 130) O5.out HXX.out.fine (by decide) (by decide) (by decide) (by decide) (by decide)).mono ?_
                rintro e w4 ⟨v4, a4, c4, rfl, o4, t4⟩
                rw [HB.out] at o4
                have O6 := Lib.hid o4
                rw [hE]
                generalize (putO b (th 130)).length = lx at *
                clear o4 t4 hE
                go_wp2_with fail
                refine (lost_ p v4 b w4 O6.out.bs).mono ?_
                rintro e w5 ⟨rfl, rfl⟩
                rw [HXX.out.lost]
                go_wp2_with fail
                refine (len_ p v4 b w5 O6.out.bs).mono ?_
                rintro e w6 ⟨rfl, rfl⟩
                rw [HLL.out]
                go_wp2
                go_ret
                exact ⟨rfl, O6.out.below⟩
end Go.Proofs.Ytodnalkgbnkdjaa.reo
