import Derived.Test.YtlcccomdijdkaaaPPln7
import Derived.Test.YtlcccomdijdkaaaPPln5
import Derived.Test.YtlcccomdijdkaaaRows
namespace Go.Proofs.Ytlcccomdijdkaaa
open Go.RowKit Go.Proofs.Try

def VB (n : Int) (b : MBurner) : Prop := 0 ≤ b.ready ∧ b.due ≤ n ∧ b.ready < b.due ∧ 1 ≤ b.hours ∧ b.hours ≤ b.due - b.ready ∧ 0 ≤ b.heat ∧ b.heat ≤ 1099511627776
instance (n : Int) (b : MBurner) : Decidable (VB n b) := inferInstanceAs (Decidable (_ ∧ _))
def VBs (n : Int) (l : List MBurner) : Prop := l.length ≤ 6 ∧ ∀ b ∈ l, VB n b
instance (n : Int) (l : List MBurner) : Decidable (VBs n l) := inferInstanceAs (Decidable (_ ∧ _))
def VR (room : List Int) : Prop := room.length ≤ 168 ∧ ∀ x ∈ room, 0 ≤ x ∧ x ≤ 8796093022208
instance (room : List Int) : Decidable (VR room) := inferInstanceAs (Decidable (_ ∧ _))
theorem drop_all {α : Type} [Inhabited α] {l : List α} {i : Nat} {P : α → Prop} (h : i < l.length) : (∀ x ∈ l.drop i, P x) ↔ P (l.getD i default) ∧ ∀ x ∈ l.drop (i + 1), P x := by
  have hd : l.drop i = l.getD i default :: l.drop (i + 1) := by
    rw [List.drop_eq_getElem_cons h]
    simp [List.getD, h]
  rw [hd]
  simp
theorem validLoop_eq (l : List MBurner) (n0 : Int) (hl : l.length ≤ 1000) (hn : 0 ≤ n0 ∧ n0 ≤ 1000000) : ∀ (n i : Nat), i ≤ l.length → l.length < i + n → stream_validRuns_l1 l n0 n (i : Int) = some (if ∀ b ∈ l.drop i, VB n0 b then Lp.done () else Lp.ret false)
  | 0, i, h1, h2 => by omega
  | n + 1, i, h1, h2 => by
    rw [stream_validRuns_l1]
    by_cases hlt : i < l.length
    · rw [cond_t (by simpa using hlt), grd_pos ⟨by omega, by omega⟩]
      simp only [Int.toNat_natCast]
      simp only [drop_all hlt]
      obtain ⟨b, hb⟩ : ∃ b, b = l.getD i default := ⟨_, rfl⟩
      simp only [← hb]
      rw [grd_pos (fun h => by simp only [Bool.not_eq_true', Bool.or_eq_false_iff, decide_eq_false_iff_not] at h; omega)]
      by_cases hv : VB n0 b
      · obtain ⟨v1, v2, v3, v4, v5, v6, v7⟩ := hv
        rw [cond_f (by simp only [Bool.or_eq_false_iff, decide_eq_false_iff_not]; omega), grd_pos (by omega)]
        have ih := validLoop_eq l n0 hl hn n (i + 1) (by omega) (by omega)
        have hv : VB n0 b := ⟨v1, v2, v3, v4, v5, v6, v7⟩
        simp only [hv, true_and]
        exact ih
      · rw [cond_t (by
          simp only [Bool.or_eq_true, decide_eq_true_eq]
          unfold VB at hv
          omega), if_neg (fun h => hv h.1)]
    · have : l.drop i = [] := List.drop_eq_nil_of_le (by omega)
      rw [cond_f (by simpa using hlt), this]
      simp
theorem validRuns_eq {fuel : Nat} (hf : 1500 < fuel) (l : List MBurner) (n0 : Int) (hn : 0 ≤ n0 ∧ n0 ≤ 1000000) : stream_validRuns fuel l n0 = some (decide (VBs n0 l)) := by
  unfold stream_validRuns
  by_cases h : 6 < l.length
  · rw [cond_t (decide_eq_true (by omega)), decide_eq_false (fun hv => by have := hv.1; omega)]
  · rw [cond_f (decide_eq_false (by omega))]
    have e : stream_validRuns_l1 l n0 fuel 0 = _ := validLoop_eq l n0 (by omega) hn fuel 0 (by omega) (by omega)
    rw [List.drop_zero] at e
    rw [bind_ok e]
    by_cases hv : ∀ b ∈ l, VB n0 b
    · rw [if_pos hv, decide_eq_true ⟨by omega, hv⟩]
      rfl
    · rw [if_neg hv, decide_eq_false (fun h => hv h.2)]
      rfl
theorem offLoop_eq (s : List Int) (hl : s.length ≤ 1000) : ∀ (n i : Nat), i ≤ s.length → s.length < i + n → if ∀ x ∈ s.drop i, 0 ≤ x ∧ x ≤ 8796093022208 then indexOff_l1 s n (i : Int) = some (Lp.done ()) else ∃ j : Nat, indexOff_l1 s n (i : Int) = some (Lp.ret (j : Int))
  | 0, i, h1, h2 => by omega
  | n + 1, i, h1, h2 => by
    rw [indexOff_l1]
    by_cases hlt : i < s.length
    · rw [cond_t (by simpa using hlt), grd_pos ⟨by omega, by omega⟩]
      simp only [Int.toNat_natCast, stream_validRoom_1, Option.bind_some]
      simp only [drop_all hlt]
      obtain ⟨x, hx⟩ : ∃ x, x = s.getD i default := ⟨_, rfl⟩
      simp only [← hx]
      by_cases hv : 0 ≤ x ∧ x ≤ 8796093022208
      · rw [cond_f (by simp only [Bool.or_eq_false_iff, decide_eq_false_iff_not]; omega), grd_pos (by omega)]
        have ih := offLoop_eq s hl n (i + 1) (by omega) (by omega)
        simp only [hv, true_and, and_self]
        exact ih
      · rw [cond_t (by simp only [Bool.or_eq_true, decide_eq_true_eq]; omega), if_neg (fun h => hv h.1)]
        exact ⟨i, rfl⟩
    · have : s.drop i = [] := List.drop_eq_nil_of_le (by omega)
      rw [cond_f (by simpa using hlt), this]
      simp
theorem validRoom_eq {fuel : Nat} (hf : 1500 < fuel) (room : List Int) : stream_validRoom fuel room = some (decide (VR room)) := by
  unfold stream_validRoom
  by_cases h : room.length ≤ 168
  · have hd : decide (((room.length : Nat) : Int) ≤ 168) = true := decide_eq_true (by omega)
    rw [hd, cond_t rfl]
    have e := offLoop_eq room (by omega) fuel 0 (by omega) (by omega)
    rw [List.drop_zero] at e
    unfold anyOff indexOff
    by_cases hv : ∀ x ∈ room, 0 ≤ x ∧ x ≤ 8796093022208
    · rw [if_pos hv] at e
      have e' : indexOff_l1 room fuel 0 = _ := e
      rw [e', decide_eq_true ⟨h, hv⟩]
      rfl
    · rw [if_neg hv] at e
      obtain ⟨j, e⟩ := e
      have e' : indexOff_l1 room fuel 0 = _ := e
      rw [e', decide_eq_false (fun h => hv h.2)]
      simp [Lp.go]
  · have hd : decide (((room.length : Nat) : Int) ≤ 168) = false := decide_eq_false (by omega)
    rw [hd, decide_eq_false (fun hv => h hv.1), cond_f rfl]
    rfl
theorem VB.ok {n : Int} {b : MBurner} (h : VB n b) (hn : n ≤ 168) : OkB b := by
  obtain ⟨v1, v2, v3, v4, v5, v6, v7⟩ := h
  exact ⟨v1, by omega, by omega, v4, v6, v7⟩
/-- the room of a row of hours, and none behind them -/
def roomF (room : List Int) : Nat → Int := fun j => (arrCopy (List.replicate 168 0) room).getD j 0
theorem rep0 (n j : Nat) : (List.replicate n (0 : Int)).getD j 0 = 0 := by
  rw [List.getD, List.getElem?_replicate]
  split <;> rfl
theorem arrCopy_get (L room : List Int) {j : Nat} (hj : j < 168) : (arrCopy L room).getD j 0 = if j < room.length then room.getD j 0 else L.getD j 0 := by
  unfold arrCopy
  simp [List.getD, hj]
theorem arrCopy_len (L room : List Int) : (arrCopy L room).length = 168 := by simp [arrCopy]
theorem roomF_eq (room : List Int) {j : Nat} (hj : j < 168) : roomF room j = if j < room.length then room.getD j 0 else 0 := by
  unfold roomF
  rw [arrCopy_get _ _ hj, rep0]
theorem room_good {room : List Int} (h : VR room) : Good (arrCopy (List.replicate 168 0) room) := by
  refine ⟨arrCopy_len _ _, fun j hj => ?_⟩
  have e := roomF_eq room hj
  unfold roomF at e
  rw [e]
  by_cases hr : j < room.length
  · rw [if_pos hr]
    have hm : room.getD j 0 ∈ room := by
      have e : room.getD j 0 = room[j] := by simp [List.getD, hr]
      rw [e]
      exact List.getElem_mem hr
    exact h.2 _ hm
  · rw [if_neg hr]
    decide
set_option maxRecDepth 100000 in
theorem Runs_says (room : List Int) (l : List MBurner) (hlen : room.length ≤ 1000000) : ∃ r, stream_Runs FU room l = some r ∧ ((r = ([], 1) ∧ ¬ (VR room ∧ VBs room.length l)) ∨ ((VR room ∧ VBs room.length l) ∧
    ((r = ([], 4) ∧ ∀ x : Int, 0 ≤ x → x ≤ room.length → ¬ Fea (roomF room) x l) ∨ (r.2 = 0 ∧ ∃ by' : Int, 0 ≤ by' ∧ by' ≤ room.length ∧ (∀ x, 0 ≤ x → x < by' → ¬ Fea (roomF room) x l) ∧ Okp (roomF room) by' l r.1 ∧ ∀ S', Okp (roomF room) by' l S' → LexLe r.1 S')))) := by
  have hF : (1500 : Nat) < FU := by decide
  unfold stream_Runs
  rw [bind_ok (validRuns_eq hF l _ (by omega))]
  by_cases h1 : VBs room.length l
  · by_cases h2 : VR room
    · simp only [h1, h2, decide_true, Bool.not_true, Bool.not_false]
      rw [validRoom_eq hF, decide_eq_true h2]
      simp only [cond_true, Option.bind_some, Bool.not_true, Bool.or_self]
      have hr := h2.1
      have hok : ∀ b ∈ l, OkB b := fun b hb => (h1.2 b hb).ok (by omega)
      have hll := h1.1
      rw [cond_f rfl, grd_pos h2.1, grd_pos (by omega)]
      obtain ⟨k, hk⟩ : ∃ k, FU = k + 1 ∧ 10 ≤ k := ⟨1099511627775, by decide, by decide⟩
      obtain ⟨hk, hk2⟩ := hk
      have hp10 : (2 : Int) ^ 10 = 1024 := by decide
      obtain ⟨r9, e9, a1, a2, a3, a4⟩ := runsLoop_eq (fuel := FU) hF (l := l) (by omega) (room_good h2) hok ((room.length : Int) + 1) (by omega) 10 k 0 ((room.length : Int) + 1) hk2 (by omega) (by omega) (by omega) (by rw [hp10]; omega) (fun x x0 x1 => by omega) (fun x x0 x1 => by omega)
      have es : searchRuns FU (arrCopy (List.replicate 168 0) room) l ((room.length : Int) + 1) = some r9 := by
        unfold searchRuns
        rw [show searchRuns_l1 FU (arrCopy (List.replicate 168 0) room) l FU (0, (room.length : Int) + 1) = _ from (congrArg (fun z => searchRuns_l1 FU (arrCopy (List.replicate 168 0) room) l z (0, (room.length : Int) + 1)) hk).trans e9]
        rfl
      rw [bind_ok es]
      by_cases h9 : (room.length : Int) < r9
      · rw [cond_t (decide_eq_true h9)]
        exact ⟨_, rfl, .inr ⟨⟨trivial, trivial⟩, .inl ⟨rfl, fun x x0 x1 => a3 x x0 (by omega)⟩⟩⟩
      · rw [cond_f (decide_eq_false h9)]
        obtain ⟨S, eS, hS, hlex⟩ := plan_eq (fuel := FU) hF (l := l) (by' := r9) (by omega) hok (room_good h2) (a4 r9 (by omega) (by omega))
        rw [bind_ok eS]
        exact ⟨_, rfl, .inr ⟨⟨trivial, trivial⟩, .inr ⟨rfl, r9, a1, by omega, a3, hS, hlex⟩⟩⟩
    · simp only [h1, decide_true, Bool.not_true, Bool.not_false]
      rw [validRoom_eq hF, decide_eq_false h2]
      exact ⟨_, rfl, .inl ⟨rfl, fun h => h2 h.1⟩⟩
  · rw [decide_eq_false h1]
    exact ⟨_, rfl, .inl ⟨rfl, fun h => h1 h.2⟩⟩
end Go.Proofs.Ytlcccomdijdkaaa
namespace Go.Proofs.Ytlcccomdijdkaaa
open Go.RowKit Go.Proofs.Try

theorem refRooms_ok {fuel : Nat} (hf : 1500 < fuel) {room : List Int} (h : VR room) : wormtubref05_Rooms fuel room = some true := by
  have loop : ∀ (n i : Nat), i ≤ room.length → room.length < i + n → wormtubref05_Rooms_l1 room n (i : Int) = some (Lp.done ()) := by
    intro n
    induction n with
    | zero => intro i h1 h2; omega
    | succ n ih =>
      intro i h1 h2
      have hl := h.1
      rw [wormtubref05_Rooms_l1]
      by_cases hlt : i < room.length
      · have hm : room.getD i default ∈ room := by
          have e : room.getD i default = room[i] := by simp [List.getD, hlt]
          rw [e]
          exact List.getElem_mem hlt
        have hx := h.2 _ hm
        rw [cond_t (decide_eq_true (by omega)), grd_pos ⟨by omega, by omega⟩]
        simp only [Int.toNat_natCast]
        have hin : wormtubref05_in (room.getD i default) 0 8796093022208 = some true := by
          unfold wormtubref05_in
          rw [decide_eq_true hx.1, decide_eq_true hx.2]
          rfl
        rw [bind_ok hin]
        refine Eq.trans (cond_f (by rfl) _ _) ?_
        refine Eq.trans (grd_pos (by omega) _) ?_
        exact ih (i + 1) (by omega) (by omega)
      · rw [cond_f (decide_eq_false (by omega))]
  have e : wormtubref05_Rooms_l1 room fuel 0 = _ := loop fuel 0 (by omega) (by have := h.1; omega)
  unfold wormtubref05_Rooms
  rw [bind_ok e]
  refine Eq.trans (go_done _ _) ?_
  unfold wormtubref05_Rooms_k1
  rw [decide_eq_true (by have := h.1; omega)]
theorem refBurners_ok {fuel : Nat} (hf : 1500 < fuel) {n0 : Int} {l : List MBurner} (hn : n0 ≤ 168) (h : VBs n0 l) : wormtubref05_Burners fuel n0 l = some true := by
  have loop : ∀ (n i : Nat), i ≤ l.length → l.length < i + n → wormtubref05_Burners_l1 n0 l n (i : Int) = some (Lp.done ()) := by
    intro n
    induction n with
    | zero => intro i h1 h2; omega
    | succ n ih =>
      intro i h1 h2
      have hl := h.1
      rw [wormtubref05_Burners_l1]
      by_cases hlt : i < l.length
      · obtain ⟨v1, v2, v3, v4, v5, v6, v7⟩ := h.2 _ (getD_mem hlt)
        rw [cond_t (decide_eq_true (by omega)), grd_pos ⟨by omega, by omega⟩]
        simp only [Int.toNat_natCast]
        obtain ⟨b, hb⟩ : ∃ b, b = l.getD i default := ⟨_, rfl⟩
        simp only [← hb] at v1 v2 v3 v4 v5 v6 v7 ⊢
        rw [grd_pos (fun _ => by omega)]
        have q : ((((decide (b.ready < 0) || decide (n0 < b.due)) || decide (b.hours < 1)) || decide (b.due < b.ready)) || decide ((b.due - b.ready) < b.hours)) = false := by
          simp only [Bool.or_eq_false_iff, decide_eq_false_iff_not]
          omega
        rw [q]
        have hin : wormtubref05_in b.heat 0 1099511627776 = some true := by
          unfold wormtubref05_in
          rw [decide_eq_true v6, decide_eq_true v7]
          rfl
        refine Eq.trans (bind_ok (show (bif !false then wormtubref05_in b.heat 0 1099511627776 else some default) = some true from hin) _) ?_
        refine Eq.trans (cond_f (by rfl) _ _) ?_
        refine Eq.trans (grd_pos (by omega) _) ?_
        exact ih (i + 1) (by omega) (by omega)
      · rw [cond_f (decide_eq_false (by omega))]
  have e : wormtubref05_Burners_l1 n0 l fuel 0 = _ := loop fuel 0 (by omega) (by have := h.1; omega)
  unfold wormtubref05_Burners
  rw [bind_ok e]
  refine Eq.trans (go_done _ _) ?_
  unfold wormtubref05_Burners_k1
  rw [decide_eq_true (by have := h.1; omega)]
/-- when the last one ends -/
def ends : List MBurner → List Int → Int
  | b :: l, s :: S => max (s + b.hours) (ends l S)
  | _, _ => 0
/-- starts and hours that are small -/
def Small (l : List MBurner) (S : List Int) : Prop := S.length ≤ l.length ∧ l.length ≤ 1000 ∧ (∀ b ∈ l, 0 ≤ b.hours ∧ b.hours ≤ 1000000 ∧ 0 ≤ b.heat ∧ b.heat ≤ 1099511627776) ∧ ∀ s ∈ S, -1000000 ≤ s ∧ s ≤ 1000000
theorem drop_get {α : Type} [Inhabited α] {l : List α} {i : Nat} (h : i < l.length) : l.drop i = l.getD i default :: l.drop (i + 1) := by
  rw [List.drop_eq_getElem_cons h]
  simp [List.getD, h]
theorem getI_mem {S : List Int} {i : Nat} (h : i < S.length) : S.getD i default ∈ S := by
  have e : S.getD i default = S[i] := by simp [List.getD, h]
  rw [e]
  exact List.getElem_mem h
theorem endLoop_eq {l : List MBurner} {S : List Int} (h : Small l S) : ∀ (n i : Nat) (e : Int), 0 ≤ e → i ≤ S.length → S.length < i + n → wormtubref05_Plan_l1 l S n (e, (i : Int)) = some (Lp.done (max e (ends (l.drop i) (S.drop i)))) := by
  intro n
  induction n with
  | zero => intro i e _ h1 h2; omega
  | succ n ih =>
    intro i e h0 h1 h2
    obtain ⟨s1, s2, s3, s4⟩ := h
    rw [wormtubref05_Plan_l1]
    by_cases hlt : i < S.length
    · have hb := s3 _ (getD_mem (l := l) (i := i) (by omega))
      have hs := s4 _ (getI_mem hlt)
      rw [drop_get hlt, drop_get (l := l) (i := i) (by omega), ends]
      refine Eq.trans (cond_t (decide_eq_true (by simp only; omega)) _ _) ?_
      simp only [Int.toNat_natCast]
      rw [grd_pos ⟨⟨by omega, by omega⟩, ⟨by omega, by omega⟩, by omega⟩, grd_pos (by omega)]
      have := ih (i + 1) (max e (S.getD i default + (l.getD i default).hours)) (by omega) (by omega) (by omega)
      rw [show ((i + 1 : Nat) : Int) = (i : Int) + 1 by omega] at this
      rw [this]
      congr 2
      omega
    · have e1 : S.drop i = [] := List.drop_eq_nil_of_le (by omega)
      refine Eq.trans (cond_f (decide_eq_false (by simp only; omega)) _ _) ?_
      rw [e1]
      unfold ends
      cases l.drop i <;> (simp only; congr 2; omega)
theorem useLoop_eq {l : List MBurner} {S : List Int} (h : Small l S) (j : Nat) : ∀ (n i : Nat) (a : Int), 0 ≤ a → a ≤ 1099511627776 * i → i ≤ S.length → S.length < i + n → wormtubref05_Plan_l3 l S (j : Int) n (a, (i : Int)) = some (Lp.done (a + usage (l.drop i) (S.drop i) j)) := by
  intro n
  induction n with
  | zero => intro i a _ _ h1 h2; omega
  | succ n ih =>
    intro i a h0 ha h1 h2
    obtain ⟨s1, s2, s3, s4⟩ := h
    rw [wormtubref05_Plan_l3]
    by_cases hlt : i < S.length
    · have hb := s3 _ (getD_mem (l := l) (i := i) (by omega))
      have hs := s4 _ (getI_mem hlt)
      rw [drop_get hlt, drop_get (l := l) (i := i) (by omega), usage]
      refine Eq.trans (cond_t (decide_eq_true (by simp only; omega)) _ _) ?_
      simp only [Int.toNat_natCast]
      rw [grd_pos ⟨⟨by omega, by omega⟩, fun _ => ⟨by omega, by omega⟩, fun _ => ⟨by omega, by omega⟩, fun _ => by omega⟩]
      unfold term
      by_cases hc : S.getD i default ≤ (j : Int) ∧ (j : Int) < S.getD i default + (l.getD i default).hours
      · rw [if_pos hc, decide_eq_true hc.1, decide_eq_true hc.2]
        refine Eq.trans (cond_t (by rfl) _ _) ?_
        refine Eq.trans (grd_pos ⟨⟨by omega, by omega⟩, by omega⟩ _) ?_
        refine Eq.trans (grd_pos (by omega) _) ?_
        have := ih (i + 1) (a + (l.getD i default).heat) (by omega) (by omega) (by omega) (by omega)
        rw [show ((i + 1 : Nat) : Int) = (i : Int) + 1 by omega] at this
        rw [this]
        congr 2
        omega
      · rw [if_neg hc]
        refine Eq.trans (cond_f (by
          by_cases h3 : S.getD i default ≤ (j : Int)
          · rw [decide_eq_true h3, decide_eq_false (fun h4 => hc ⟨h3, h4⟩)]; rfl
          · rw [decide_eq_false h3]; rfl) _ _) ?_
        refine Eq.trans (grd_pos (by omega) _) ?_
        have := ih (i + 1) a (by omega) (by omega) (by omega) (by omega)
        rw [show ((i + 1 : Nat) : Int) = (i : Int) + 1 by omega] at this
        rw [this]
        congr 2
        omega
    · have e1 : S.drop i = [] := List.drop_eq_nil_of_le (by omega)
      refine Eq.trans (cond_f (decide_eq_false (by simp only; omega)) _ _) ?_
      rw [e1]
      unfold usage
      cases l.drop i <;> (simp only; congr 2; omega)
end Go.Proofs.Ytlcccomdijdkaaa
namespace Go.Proofs.Ytlcccomdijdkaaa
open Go.RowKit

variable {P : Program} {X : Ctx} {E : Env} {a : Act} {w : World} {st : SState}

theorem pickL_none {α : Type} (l : List (Nat × α)) (g : Nat) : ∀ (js : List Nat), js.all (fun i => !Nat.beq i g) = true → look (pickL js l) g = none
  | [], _ => rfl
  | i :: is, h => by
    simp only [List.all_cons, Bool.and_eq_true, Bool.not_eq_true'] at h
    simp only [pickL]
    have hne : i ≠ g := fun e => by subst e; simp at h
    split
    · rw [look_ne hne]; exact pickL_none l g is h.2
    · exact pickL_none l g is h.2
theorem St.grrd (S : St X st E a w) (hC : X.C = noC) (g k : Nat) {y : GQ} (hg : look st.m.grs g = some y) (ks gs js : List Nat) (hno : js.all (fun j => !Nat.beq j g) = true) (q : Q) (h1 : q.len = y.len) (h2 : q.n = y.n) (hc : ∀ i, i < y.len → ∀ j v, (q.get i)[j]? = some v → y.xs[i * y.n + j]? = some v)
    (hn : (noSS k (pickL ks st.slots) && noSB k (pickL gs st.m.blks) && Nat.ble 1000 k) = true) :
    ∃ A cap, E.gr g = .slice A y.len cap ∧ St X ⟨pickL ks st.slots, { st.m with blks := pickL gs st.m.blks, rds := (k, q) :: st.m.rds, grs := pickL js st.m.grs }⟩ (E.updS k ⟨A, y.len, cap, q.n⟩) a w := by
  have S1 := St.pickG S ks gs js _ rfl
  obtain ⟨A, cap, e, hcap, hs⟩ := (GrAt.slice (B := 0) (S.mem.gr g y hg) (fun b _ => Nat.zero_le _) 0 (fun _ => E.gr g) rfl q.get hc).out
  refine ⟨A, cap, e, S1.addrd k q ⟨A, y.len, cap, q.n⟩ ⟨h1.symm, rfl, by rw [h1]; exact hcap, by rw [h1, h2]; exact hs⟩ (fun b off hlt hA => ?_) hn⟩
  have hown : (E.gr g).ownBlock = some b := by
    have hA' : A = some ⟨b, off, none⟩ := hA
    have e' : E.gr g = .slice A y.len cap := e
    rw [e', hA']
    rfl
  refine ⟨fun ho => ?_, ?_⟩
  · rcases ho with ⟨j, t, c, hx, e'⟩ | ⟨j, y', hy, e'⟩
    · exact S.sep.mix j g t c y (pickL_sub _ _ _ _ hx) hg (by rw [e']; exact hown)
    · have hj := S.sep.ginj.1 j g _ _ b (pickL_sub _ _ _ _ hy) hg e' hown
      subst hj
      have hy' : look (pickL js st.m.grs) j = some y' := hy
      rw [pickL_none _ _ _ hno] at hy'
      cases hy'
  · rcases S.sep.ginj.2 g y b hg hown with h | h
    · exact .inl h
    · rw [hC] at h; exact h.elim
/-- an element of one cell of a row that grows is stored -/
theorem sym_storeG1 {lay : Lay} (hl : LayOK P lay) {ops l r : List Oper} {o1 o2 : Oper} {Po : Exit → Act → World → Prop} (hL : l = o1 :: o2 :: r) (t : TypeId) (x i z : Operand) (d1 : Nat) (S : St X st E a w) (k : Nat) (q : GQ) (h1 : o1.op = .indexAddr t x i) (hd1 : o1.dst = some d1) (hg1 : o1.guard = none)
    (h2 : o2.op = .store q.ty (.tmp d1) z) (hd2 : o2.dst = none) (hg2 : o2.guard = none) (ik : IntKind) (iv : Int) (zk : IntKind) (zi : Int) (d dt : TyD) (hx : opnd st.slots x = some (.gr k)) (hi : opnd st.slots i = some (.v (.int ik iv))) (hz : opnd ((d1, .v undef) :: st.slots) z = some (.v (.int zk zi))) (hq : look st.m.grs k = some q)
    (hdt : look lay t = some dt) (hsl : dt.k = .sli q.ty q.n) (hd : look lay q.ty = some d) (hn : d.n = q.n) (hqn : q.n = 1) (hr : 0 ≤ iv ∧ iv < q.len) (hdn : d1 < X.n)
    (q2 : GQ) (hq2 : (⟨q.ty, q.n, q.len, q.xs.take iv.toNat ++ [.int zk zi] ++ q.xs.drop (iv.toNat + 1)⟩ : GQ) = q2) (kk : ∀ u v0 E' a' w', E'.gr k = v0 → St X (SState.setgr ⟨(d1, .v u) :: st.slots, st.m⟩ k v0 q2) E' a' w' → wpList P ops.toArray Po r a' w') : wpList P ops.toArray Po l a w := by
  subst hL
  obtain ⟨u, hu, hmm⟩ := (hl t dt hdt).under
  rw [hsl] at hmm
  obtain ⟨rfl, hkn, hes⟩ := hmm
  have hG := S.mem.gr k q hq
  obtain ⟨hxl, ⟨_, h0⟩ | ⟨b, cap, cur, hv, _, hb, hcap, hmax, hsz, htake⟩⟩ := hG
  · omega
  obtain ⟨m, rfl⟩ : ∃ m : Nat, iv = m := ⟨iv.toNat, by omega⟩
  have hm : m < q.len := by omega
  have ex : a.eval x = .slice (some ⟨b, 0, none⟩) q.len cap := (S.eval hx).trans hv
  have ei : a.eval i = .int ik m := S.eval hi
  obtain ⟨ptr, hptr⟩ : ∃ ptr : Value, ptr = .pointer (some ⟨b, m * q.n, none⟩) := ⟨_, rfl⟩
  have hrun1 : (execOp a.eval o1).run P w = .ok (.value ptr) w := by
    obtain ⟨dst, op, type, pos, after, guard⟩ := o1
    simp only at h1
    subst h1
    refine run_v rfl ?_
    rw [ex, ei, hptr]
    unfold Instr.indexAt
    simp only [asIntOf, Sem.run_bind, Sem.run_pure, Result.andThen_ok, run_underlying hu]
    rw [if_pos (by omega)]
    simp only [Sem.run_bind, knownB.run_size hkn, Result.andThen_ok, Sem.run_pure, add_plain', Nat.zero_add, Int.toNat_natCast]
    rw [← hes]
  refine wpList_plain hg1 fun K hK => ?_
  unfold Oper.wp
  rw [hrun1]
  simp only [Oper.upon]
  refine hK _ _ ?_
  rw [hd1]
  have S1 : St X ⟨(d1, .v ptr) :: st.slots, st.m⟩ E (a.put (some d1) ptr) w := by
    unfold St
    simp only [look_upd]
    exact StF.put S hdn (.v ptr)
  have ez : (a.put (some d1) ptr).eval z = .int zk zi := by
    cases z with
    | tmp tz =>
      simp only [opnd] at hz
      have hne : d1 ≠ tz := fun e => by subst e; rw [look_same] at hz; cases hz
      rw [look_ne hne] at hz
      have := S1.slot tz (.v (.int zk zi)) (by show look ((d1, SV.v ptr) :: st.slots) tz = _; rw [look_ne hne]; exact hz)
      simp [Act.eval, this, SV.val]
    | const v =>
      simp only [opnd, Option.some.injEq, SV.v.injEq] at hz
      simp [Act.eval, hz]
    | global g => simp [opnd] at hz
    | func f => simp [opnd] at hz
  have ep : (a.put (some d1) ptr).eval (.tmp d1) = ptr := by
    have := S1.slot d1 (.v ptr) (look_same _ _ _)
    simp [Act.eval, this, SV.val]
  have hys : ([.v (.int zk zi)] : List SV).length = q.n := by rw [hqn]; rfl
  have hone' : ∀ v ∈ SV.vals E [.v (.int zk zi)], v.oneCell' = true := fun v hv => by
    simp [SV.vals, SV.val] at hv
    subst hv
    rfl
  have hmul : m * q.n + q.n ≤ q.len * q.n := by
    have := Nat.mul_le_mul_right q.n (show m + 1 ≤ q.len by omega)
    rwa [Nat.add_mul, Nat.one_mul] at this
  have hmul2 : q.len * q.n ≤ cap * q.n := Nat.mul_le_mul_right q.n hcap
  have hB : Blk w b q.ty cur := hb
  have hst := run_storeCells_at (P := P) b (m * q.n) q.ty (SV.vals E [.v (.int zk zi)]) 0 cur w hB (by simp [vals_length]; omega) hone'
  have hrun2 : (execOp (a.put (some d1) ptr).eval o2).run P w = .ok .skip (w.setRow b (cur.toList.take (m * q.n) ++ SV.vals E [.v (.int zk zi)] ++ cur.toList.drop (m * q.n + q.n)).toArray) := by
    have hsa : (Instr.storeAt q.ty ptr (.int zk zi)).run P w = .ok () (w.setRow b (cur.toList.take (m * q.n) ++ SV.vals E [.v (.int zk zi)] ++ cur.toList.drop (m * q.n + q.n)).toArray) := by
      rw [hptr]
      have e1 : (Value.int zk zi).cells = (SV.vals E [.v (.int zk zi)]).toArray := rfl
      unfold Instr.storeAt storeVar
      simp only [Instr.sureAddr, Sem.run_bind, Sem.run_pure, Result.andThen_ok, (hl q.ty d hd).run_size, e1]
      rw [if_neg (by simp [vals_length, hys, hn])]
      simp only [Nat.add_zero, vals_length, hys] at hst
      exact hst
    obtain ⟨dst, op, type, pos, after, guard⟩ := o2
    simp only at h2
    subst h2
    simp only [execOp, ep, ez, Sem.run_bind, hsa, Result.andThen_ok, Sem.run_pure]
  refine wpList_plain hg2 fun K2 hK2 => ?_
  unfold Oper.wp
  rw [hrun2]
  simp only [Oper.upon]
  refine hK2 _ _ ?_
  rw [hd2]
  have S2 := S1.setgr k ⟨q.ty, q.n, q.len, q.xs.take (m * q.n) ++ SV.vals E [.v (.int zk zi)] ++ q.xs.drop (m * q.n + q.n)⟩ (w' := w.setRow b (cur.toList.take (m * q.n) ++ SV.vals E [.v (.int zk zi)] ++ cur.toList.drop (m * q.n + q.n)).toArray) (v' := E.gr k) (row := (E.gr k).ownBlock)
    ⟨rfl, rfl, rfl, by simp, fun j _ hj => setRow_other w b j _ (fun e => hj (by rw [hv]; simp [Value.ownBlock, e]))⟩ (fun b' hb' => ⟨q, hq, hb'⟩) ⟨?_, .inr ⟨b, cap, _, hv, Nat.zero_le _, setRow_heap w b cur _ q.ty _ hb, hcap, hmax, ?_, ?_⟩⟩ (fun b' hb' => .inl hb')
  · rw [show (⟨q.ty, q.n, q.len, q.xs.take (m * q.n) ++ SV.vals E [.v (.int zk zi)] ++ q.xs.drop (m * q.n + q.n)⟩ : GQ) = q2 by rw [← hq2, hqn, Nat.mul_one, Int.toNat_natCast]; rfl] at S2
    exact kk ptr (E.gr k) (E.updG k (E.gr k)) _ _ (Env.updG_same _ _ _) S2
  · simp only [List.length_append, List.length_take, List.length_drop, vals_length, hys, hxl]
    omega
  · simp only [List.size_toArray, List.length_append, List.length_take, List.length_drop, vals_length, hys, Array.length_toList, hsz]
    omega
  · rw [← htake]
    exact take_mid cur.toList (SV.vals E [.v (.int zk zi)]) (m * q.n) q.n (q.len * q.n) (by rw [vals_length, hys]) hmul (by rw [Array.length_toList, hsz]; exact hmul2)
/-- an element of one cell of a row that grows is read -/
theorem sym_loadG1 {lay : Lay} (hl : LayOK P lay) {ops l r : List Oper} {o1 o2 : Oper} {Po : Exit → Act → World → Prop} (hL : l = o1 :: o2 :: r) (t : TypeId) (x i : Operand) (d1 d2 : Nat) (S : St X st E a w) (k : Nat) (q : GQ) (h1 : o1.op = .indexAddr t x i) (hd1 : o1.dst = some d1) (hg1 : o1.guard = none)
    (h2 : o2.op = .load q.ty (.tmp d1)) (hd2 : o2.dst = some d2) (hg2 : o2.guard = none) (ik : IntKind) (iv : Int) (zi : Int) (d dt : TyD) (hx : opnd st.slots x = some (.gr k)) (hi : opnd st.slots i = some (.v (.int ik iv))) (hq : look st.m.grs k = some q)
    (hdt : look lay t = some dt) (hsl : dt.k = .sli q.ty q.n) (hd : look lay q.ty = some d) (hdk : d.k = .int .i64) (hn : d.n = 1) (hqn : q.n = 1) (hz : q.xs[iv.toNat]? = some (.int .i64 zi)) (hr : 0 ≤ iv ∧ iv < q.len) (hdn : d1 < X.n) (hdn2 : d2 < X.n)
    (kk : ∀ u a', St X ⟨(d2, .v (.int .i64 zi)) :: (d1, .v u) :: st.slots, st.m⟩ E a' w → wpList P ops.toArray Po r a' w) : wpList P ops.toArray Po l a w := by
  subst hL
  obtain ⟨u, hu, hmm⟩ := (hl t dt hdt).under
  rw [hsl] at hmm
  obtain ⟨rfl, hkn, hes⟩ := hmm
  have hG := S.mem.gr k q hq
  obtain ⟨hxl, ⟨_, h0⟩ | ⟨b, cap, cur, hv, _, hb, hcap, hmax, hsz, htake⟩⟩ := hG
  · omega
  obtain ⟨m, rfl⟩ : ∃ m : Nat, iv = m := ⟨iv.toNat, by omega⟩
  have hm : m < q.len := by omega
  have ex : a.eval x = .slice (some ⟨b, 0, none⟩) q.len cap := (S.eval hx).trans hv
  have ei : a.eval i = .int ik m := S.eval hi
  obtain ⟨ptr, hptr⟩ : ∃ ptr : Value, ptr = .pointer (some ⟨b, m * q.n, none⟩) := ⟨_, rfl⟩
  have hrun1 : (execOp a.eval o1).run P w = .ok (.value ptr) w := by
    obtain ⟨dst, op, type, pos, after, guard⟩ := o1
    simp only at h1
    subst h1
    refine run_v rfl ?_
    rw [ex, ei, hptr]
    unfold Instr.indexAt
    simp only [asIntOf, Sem.run_bind, Sem.run_pure, Result.andThen_ok, run_underlying hu]
    rw [if_pos (by omega)]
    simp only [Sem.run_bind, knownB.run_size hkn, Result.andThen_ok, Sem.run_pure, add_plain', Nat.zero_add, Int.toNat_natCast]
    rw [← hes]
  refine wpList_plain hg1 fun K hK => ?_
  unfold Oper.wp
  rw [hrun1]
  simp only [Oper.upon]
  refine hK _ _ ?_
  rw [hd1]
  have S1 : St X ⟨(d1, .v ptr) :: st.slots, st.m⟩ E (a.put (some d1) ptr) w := by
    unfold St
    simp only [look_upd]
    exact StF.put S hdn (.v ptr)
  have ep : (a.put (some d1) ptr).eval (.tmp d1) = ptr := by
    have := S1.slot d1 (.v ptr) (look_same _ _ _)
    simp [Act.eval, this, SV.val]
  have hB : Blk w b q.ty cur := hb
  have hcell : w.cell? ⟨b, m, none⟩ = some (.int .i64 zi) := by
    rw [hB.cell]
    rw [Int.toNat_natCast, ← htake, hqn, Nat.mul_one, List.getElem?_take, if_pos hm] at hz
    simpa using hz
  have hld := run_load_cells (E := E) (w := w) hl hd (b := b) (ao := m) (off := 0) (cs := [.v (.int .i64 zi)]) (v := .v (.int .i64 zi)) (fun j y hj => by
    rw [hn] at hj
    cases j with
    | zero =>
      simp at hj
      subst hj
      simpa [SV.val] using hcell
    | succ j => simp at hj) (by simp [hn]) (.inr hn) (by simp [partSV, hn, hdk, isAggT])
  have hrun2 : (execOp (a.put (some d1) ptr).eval o2).run P w = .ok (.value (.int .i64 zi)) w := by
    obtain ⟨dst, op, type, pos, after, guard⟩ := o2
    simp only at h2
    subst h2
    refine run_v rfl ?_
    rw [ep, hptr, hqn, Nat.mul_one]
    simpa [SV.val] using hld
  refine wpList_plain hg2 fun K2 hK2 => ?_
  unfold Oper.wp
  rw [hrun2]
  simp only [Oper.upon]
  refine hK2 _ _ ?_
  rw [hd2]
  have S2 : St X ⟨(d2, .v (.int .i64 zi)) :: (d1, .v ptr) :: st.slots, st.m⟩ E ((a.put (some d1) ptr).put (some d2) (.int .i64 zi)) w := by
    have h := StF.put S1 hdn2 (.v (.int .i64 zi))
    unfold St
    simp only [look_upd] at h ⊢
    exact h
  exact kk ptr _ S2
/-- the model of it -/
theorem set_flat (M : List Int) (m : Nat) (x : Int) (hm : m < M.length) (t : Nat) : (⟨t, 1, M.length, (M.flatMap fun x => [.int .i64 x]).take m ++ [.int .i64 x] ++ (M.flatMap fun x => [.int .i64 x]).drop (m + 1)⟩ : GQ) = ⟨t, 1, (M.set m x).length, (M.set m x).flatMap fun x => [.int .i64 x]⟩ := by
  have e : ∀ L : List Int, (L.flatMap fun x => [Value.int .i64 x]) = L.map (Value.int .i64) := fun L => by induction L <;> simp_all
  rw [e, e, List.length_set, List.set_eq_take_append_cons_drop, if_pos hm]
  simp
theorem get_flat (M : List Int) (m : Nat) (hm : m < M.length) : (M.flatMap fun x => [Value.int .i64 x])[m]? = some (.int .i64 (M.getD m default)) := by
  have e : ∀ L : List Int, (L.flatMap fun x => [Value.int .i64 x]) = L.map (Value.int .i64) := fun L => by induction L <;> simp_all
  rw [e]
  simp [List.getD, hm]
end Go.Proofs.Ytlcccomdijdkaaa
namespace Go.Proofs.Ytlcccomdijdkaaa
open Go.RowKit Go.Proofs.Try

def wormtublaw05_StreamPlans_R (room : List Int) (l : List MBurner) (by' : List Int) : List (Nat × Q) := [(0, (iQZ room)), (1, (bQZ l)), (2, ⟨by'.length, 1, fun i => [.int .u8 (by'.getD i default)]⟩)]
def wormtublaw05_StreamPlans_k1 (fuel : Nat) (room : List Int) (l : List MBurner) (hour : Int) (more : Int) (r8 : (Int × Bool)) (x3 : Unit) : Option Bool :=
(bif (((room.length : Nat) : Int) == 0) then
((wormtublaw05_awake).bind fun (r9 : Bool) =>
some r9)
else
(grd ((([] : List Int).length + room.length ≤ 1000000)) <|
grd (InI64 hour ∧ ¬ (((([] : List Int) ++ room).length : Nat) : Int) = 0) <|
grd (((0 : Int) ≤ (hour.tmod (((([] : List Int) ++ room).length : Nat) : Int)) ∧ ((hour.tmod (((([] : List Int) ++ room).length : Nat) : Int)) : Int) < (((([] : List Int) ++ room).length : Nat) : Int)) ∧ InI64 more ∧ InI64 (((([] : List Int) ++ room).getD (Int.toNat (hour.tmod (((([] : List Int) ++ room).length : Nat) : Int))) default) + more) ∧ ((0 : Int) ≤ (hour.tmod (((([] : List Int) ++ room).length : Nat) : Int)) ∧ ((hour.tmod (((([] : List Int) ++ room).length : Nat) : Int)) : Int) < (((([] : List Int) ++ room).length : Nat) : Int))) <|
(stream_Runs fuel ((([] : List Int) ++ room).set (Int.toNat (hour.tmod (((([] : List Int) ++ room).length : Nat) : Int))) (min 8796093022208 (((([] : List Int) ++ room).getD (Int.toNat (hour.tmod (((([] : List Int) ++ room).length : Nat) : Int))) default) + more))) l).bind fun (r10 : (List Int × Int)) =>
(bif ((r10.2 != 0) || (((r10.1.length : Nat) : Int) != ((l.length : Nat) : Int))) then
(some false)
else
((wormtubref05_Plan fuel ((([] : List Int) ++ room).set (Int.toNat (hour.tmod (((([] : List Int) ++ room).length : Nat) : Int))) (min 8796093022208 (((([] : List Int) ++ room).getD (Int.toNat (hour.tmod (((([] : List Int) ++ room).length : Nat) : Int))) default) + more))) l r10.1).bind fun (r11 : (Int × Bool)) =>
((bif (decide (r11.1 ≤ r8.1)) then wormtublaw05_awake else some default)).bind fun (r12 : Bool) =>
some (decide (r11.1 ≤ r8.1) && r12)))))
def wormtublaw05_StreamPlans_l3 (r2 : (List Int × Int)) (x1 : List Int) : Nat → Int → Option (Lp Unit Bool)
  | 0, _ => none
  | n + 1, b3 =>
    (bif decide (b3 < ((r2.1.length : Nat) : Int)) then
    (grd (((0 : Int) ≤ b3 ∧ (b3 : Int) < ((r2.1.length : Nat) : Int)) ∧ ((0 : Int) ≤ b3 ∧ (b3 : Int) < ((x1.length : Nat) : Int))) <|
    (bif ((r2.1.getD (Int.toNat b3) default) != (x1.getD (Int.toNat b3) default)) then
    ((bif decide ((x1.getD (Int.toNat b3) default) < (r2.1.getD (Int.toNat b3) default)) then
    (some (Lp.ret false))
    else
    (some (Lp.done ()))))
    else
    (grd (InI64 (b3 + 1)) <|
    wormtublaw05_StreamPlans_l3 r2 x1 n (b3 + 1))))
    else
    (some (Lp.done ())))
def wormtublaw05_StreamPlans_k2 (fuel : Nat) (room : List Int) (l : List MBurner) (hour : Int) (more : Int) (r2 : (List Int × Int)) (x1 : List Int) (r6 : (Int × Bool)) (x2 : Unit) : Option Bool :=
(wormtubref05_Plan fuel room l r2.1).bind fun (r8 : (Int × Bool)) =>
(bif ((!r8.2) || ((r6.2 && (((x1.length : Nat) : Int) == ((l.length : Nat) : Int))) && decide (r6.1 < r8.1))) then
(some false)
else
((bif ((r6.2 && (((x1.length : Nat) : Int) == ((l.length : Nat) : Int))) && (r6.1 == r8.1)) then
((wormtublaw05_StreamPlans_l3 r2 x1 fuel 0).bind fun lr3 => lr3.go fun x3 => wormtublaw05_StreamPlans_k1 fuel room l hour more r8 x3)
else
((bif (((room.length : Nat) : Int) == 0) then
((wormtublaw05_awake).bind fun (r13 : Bool) =>
some r13)
else
(grd ((([] : List Int).length + room.length ≤ 1000000)) <|
grd (InI64 hour ∧ ¬ (((([] : List Int) ++ room).length : Nat) : Int) = 0) <|
grd (((0 : Int) ≤ (hour.tmod (((([] : List Int) ++ room).length : Nat) : Int)) ∧ ((hour.tmod (((([] : List Int) ++ room).length : Nat) : Int)) : Int) < (((([] : List Int) ++ room).length : Nat) : Int)) ∧ InI64 more ∧ InI64 (((([] : List Int) ++ room).getD (Int.toNat (hour.tmod (((([] : List Int) ++ room).length : Nat) : Int))) default) + more) ∧ ((0 : Int) ≤ (hour.tmod (((([] : List Int) ++ room).length : Nat) : Int)) ∧ ((hour.tmod (((([] : List Int) ++ room).length : Nat) : Int)) : Int) < (((([] : List Int) ++ room).length : Nat) : Int))) <|
(stream_Runs fuel ((([] : List Int) ++ room).set (Int.toNat (hour.tmod (((([] : List Int) ++ room).length : Nat) : Int))) (min 8796093022208 (((([] : List Int) ++ room).getD (Int.toNat (hour.tmod (((([] : List Int) ++ room).length : Nat) : Int))) default) + more))) l).bind fun (r14 : (List Int × Int)) =>
(bif ((r14.2 != 0) || (((r14.1.length : Nat) : Int) != ((l.length : Nat) : Int))) then
(some false)
else
((wormtubref05_Plan fuel ((([] : List Int) ++ room).set (Int.toNat (hour.tmod (((([] : List Int) ++ room).length : Nat) : Int))) (min 8796093022208 (((([] : List Int) ++ room).getD (Int.toNat (hour.tmod (((([] : List Int) ++ room).length : Nat) : Int))) default) + more))) l r14.1).bind fun (r15 : (Int × Bool)) =>
((bif (decide (r15.1 ≤ r8.1)) then wormtublaw05_awake else some default)).bind fun (r16 : Bool) =>
some (decide (r15.1 ≤ r8.1) && r16)))))))))
def wormtublaw05_StreamPlans_l2 (l : List MBurner) (r2 : (List Int × Int)) : Nat → Int → Option (Lp Unit Bool)
  | 0, _ => none
  | n + 1, b2 =>
    (bif decide (b2 < ((r2.1.length : Nat) : Int)) then
    (grd (((0 : Int) ≤ b2 ∧ (b2 : Int) < ((r2.1.length : Nat) : Int)) ∧ ((0 : Int) ≤ b2 ∧ (b2 : Int) < ((l.length : Nat) : Int)) ∧ ((!(decide ((r2.1.getD (Int.toNat b2) default) < ((l.getD (Int.toNat b2) default).ready)))) = true → ((0 : Int) ≤ b2 ∧ (b2 : Int) < ((r2.1.length : Nat) : Int))) ∧ ((!(decide ((r2.1.getD (Int.toNat b2) default) < ((l.getD (Int.toNat b2) default).ready)))) = true → ((0 : Int) ≤ b2 ∧ (b2 : Int) < ((l.length : Nat) : Int))) ∧ ((!(decide ((r2.1.getD (Int.toNat b2) default) < ((l.getD (Int.toNat b2) default).ready)))) = true → InI64 ((r2.1.getD (Int.toNat b2) default) + ((l.getD (Int.toNat b2) default).hours)))) <|
    (bif (decide ((r2.1.getD (Int.toNat b2) default) < ((l.getD (Int.toNat b2) default).ready)) || decide (((l.getD (Int.toNat b2) default).due) < ((r2.1.getD (Int.toNat b2) default) + ((l.getD (Int.toNat b2) default).hours)))) then
    (some (Lp.ret false))
    else
    (grd (InI64 (b2 + 1)) <|
    wormtublaw05_StreamPlans_l2 l r2 n (b2 + 1))))
    else
    (some (Lp.done ())))
def wormtublaw05_StreamPlans_k3 (fuel : Nat) (room : List Int) (l : List MBurner) (hour : Int) (more : Int) (r2 : (List Int × Int)) (x1 : List Int) : Option Bool :=
(wormtubref05_Plan fuel room l x1).bind fun (r6 : (Int × Bool)) =>
(bif (r2.2 != 0) then
(((bif ((!(r6.2 && (((x1.length : Nat) : Int) == ((l.length : Nat) : Int)))) && (((r2.1.length : Nat) : Int) == 0)) then wormtublaw05_awake else some default)).bind fun (r7 : Bool) =>
some (((!(r6.2 && (((x1.length : Nat) : Int) == ((l.length : Nat) : Int)))) && (((r2.1.length : Nat) : Int) == 0)) && r7))
else
((bif (((r2.1.length : Nat) : Int) != ((l.length : Nat) : Int)) then
(some false)
else
((wormtublaw05_StreamPlans_l2 l r2 fuel 0).bind fun lr2 => lr2.go fun x2 => wormtublaw05_StreamPlans_k2 fuel room l hour more r2 x1 r6 x2))))
def wormtublaw05_StreamPlans_l1 (l : List MBurner) (by' : List Int) : Nat → (Int × List Int) → Option (Lp (List Int) Bool)
  | 0, _ => none
  | n + 1, b1 =>
    (bif (decide (b1.1 < ((l.length : Nat) : Int)) && decide (0 < ((by'.length : Nat) : Int))) then
    (grd (((0 : Int) ≤ b1.1 ∧ (b1.1 : Int) < ((l.length : Nat) : Int)) ∧ ¬ ((by'.length : Nat) : Int) = 0 ∧ ((0 : Int) ≤ (b1.1.tmod ((by'.length : Nat) : Int)) ∧ ((b1.1.tmod ((by'.length : Nat) : Int)) : Int) < ((by'.length : Nat) : Int)) ∧ InI64 (by'.getD (Int.toNat (b1.1.tmod ((by'.length : Nat) : Int))) default) ∧ InI64 (((l.getD (Int.toNat b1.1) default).due) - ((l.getD (Int.toNat b1.1) default).hours)) ∧ InI64 ((((l.getD (Int.toNat b1.1) default).due) - ((l.getD (Int.toNat b1.1) default).hours)) - ((l.getD (Int.toNat b1.1) default).ready)) ∧ InI64 (((((l.getD (Int.toNat b1.1) default).due) - ((l.getD (Int.toNat b1.1) default).hours)) - ((l.getD (Int.toNat b1.1) default).ready)) + 1) ∧ ¬ (((((l.getD (Int.toNat b1.1) default).due) - ((l.getD (Int.toNat b1.1) default).hours)) - ((l.getD (Int.toNat b1.1) default).ready)) + 1) = 0 ∧ InI64 (((l.getD (Int.toNat b1.1) default).ready) + ((by'.getD (Int.toNat (b1.1.tmod ((by'.length : Nat) : Int))) default).tmod (((((l.getD (Int.toNat b1.1) default).due) - ((l.getD (Int.toNat b1.1) default).hours)) - ((l.getD (Int.toNat b1.1) default).ready)) + 1))) ∧ (b1.2.length + 1 ≤ 1000000)) <|
    grd (InI64 (b1.1 + 1)) <|
    wormtublaw05_StreamPlans_l1 l by' n ((b1.1 + 1), (b1.2 ++ [(((l.getD (Int.toNat b1.1) default).ready) + ((by'.getD (Int.toNat (b1.1.tmod ((by'.length : Nat) : Int))) default).tmod (((((l.getD (Int.toNat b1.1) default).due) - ((l.getD (Int.toNat b1.1) default).hours)) - ((l.getD (Int.toNat b1.1) default).ready)) + 1)))])))
    else
    (some (Lp.done b1.2)))
def wormtublaw05_StreamPlans (fuel : Nat) (room : List Int) (l : List MBurner) (by' : List Int) (hour : Int) (more : Int) : Option Bool :=
(bif (decide (20 < ((room.length : Nat) : Int)) || decide (5 < ((l.length : Nat) : Int))) then
((wormtublaw05_awake).bind fun (r1 : Bool) =>
some r1)
else
((stream_Runs fuel room l).bind fun (r2 : (List Int × Int)) =>
(bif ((r2.2 != 0) && (r2.2 != 4)) then
(((bif (((r2.1.length : Nat) : Int) == 0) then wormtublaw05_awake else some default)).bind fun (r3 : Bool) =>
some ((((r2.1.length : Nat) : Int) == 0) && r3))
else
((wormtubref05_Rooms fuel room).bind fun (r4 : Bool) =>
((bif (!(!r4)) then wormtubref05_Burners fuel ((room.length : Nat) : Int) l else some default)).bind fun (r5 : Bool) =>
(bif ((!r4) || (!r5)) then
(some false)
else
((wormtublaw05_StreamPlans_l1 l by' fuel (0, ([] : List Int))).bind fun lr1 => lr1.go fun x1 => wormtublaw05_StreamPlans_k3 fuel room l hour more r2 x1))))))
set_option maxRecDepth 100000 in
set_option maxHeartbeats 4000000 in
theorem wormtublaw05_StreamPlans_ok (fuel : Nat) (room : List Int) (l : List MBurner) (by' : List Int) (hour : Int) (more : Int) (W : World) (A0 : Option Addr) (c0 : Nat) (h0 : room.length ≤ c0) (s0 : SlAt W A0 room.length 1 fun i => [.int .i64 (room.getD i default)]) (A1 : Option Addr) (c1 : Nat) (h1 : l.length ≤ c1) (s1 : SlAt W A1 l.length 4 fun i => bZ (l.getD i default)) (A2 : Option Addr) (c2 : Nat) (h2 : by'.length ≤ c2) (s2 : SlAt W A2 by'.length 1 fun i => [.int .u8 (by'.getD i default)]) (res : Bool) (h : wormtublaw05_StreamPlans fuel room l by' hour more = some res) :
    Calls Go.Proofs.Try.prog 10 #[.slice A0 room.length c0, .slice A1 l.length c1, .slice A2 by'.length c2, .int .u8 hour, .int .u32 more] W fun e w' => e = .returned (.bool res) ∧ Below W.heap.size W w' := by
  refine sym_call (f := 10) (fn := Go.Proofs.Try.f10) (c := Go.Proofs.Try.f10.body.get rfl) Go.Proofs.Try.func10 rfl [.sl 0, .sl 1, .sl 2, .v (.int .u8 hour), .v (.int .u32 more)] (wormtublaw05_StreamPlans_R room l by') [] (envOf [(0, ⟨A0, room.length, c0, 1⟩), (1, ⟨A1, l.length, c1, 4⟩), (2, ⟨A2, by'.length, c2, 1⟩)]) allR (fun _ _ => rfl) (by kernel_rfl) (envOf_one trivial) ⟨s0.rd h0, s1.rd h1, s2.rd h2, trivial⟩ (AllRR.all _ _) trivial fun E a w S => ?_
  rw [wormtublaw05_StreamPlans] at h
  refine sym_seq lay_ok mixed [] [0, 1, 2, 3, 4] [] (⟨[(0, .sl 0), (1, .sl 1), (2, .sl 2), (3, .v (.int .u8 hour)), (4, .v (.int .u32 more))], ⟨[], (wormtublaw05_StreamPlans_R room l by'), []⟩⟩) [] S (by kernel_rfl) (by kernel_rfl) (by kernel_rfl) trivial ?_
  clear S; intro E a w S
  refine wp_seq ?_
  refine sym_seq lay_ok mixed [(4, { og := true }), (5, { og := true }), (6, { og := true }), (7, { pk := true })] [0, 1, 2, 3, 4, 34] [] (⟨[(0, .sl 0), (1, .sl 1), (2, .sl 2), (3, .v (.int .u8 hour)), (4, .v (.int .u32 more)), (34, .v (.bool (decide (20 < ((room.length : Nat) : Int)) || decide (5 < ((l.length : Nat) : Int)))))], ⟨[], (wormtublaw05_StreamPlans_R room l by'), []⟩⟩) [.imp (!(decide (20 < ((room.length : Nat) : Int)))) (!(decide (20 < ((room.length : Nat) : Int)))), .imp (!(decide (20 < ((room.length : Nat) : Int)))) (!(decide (20 < ((room.length : Nat) : Int)))), .imp (!(decide (20 < ((room.length : Nat) : Int)))) (!(decide (20 < ((room.length : Nat) : Int))))] S (by kernel_rfl) (by kernel_rfl) (by kernel_rfl) ⟨fun h => h, fun h => h, fun h => h, trivial⟩ ?_
  clear S; intro E a w S
  refine sym_if_last (b := (decide (20 < ((room.length : Nat) : Int)) || decide (5 < ((l.length : Nat) : Int)))) S rfl (fun hb1 => ?_) (fun hb1 => ?_)
  · have h := bif_t hb1 h
    obtain ⟨r1, e1, h⟩ := bind_some h
    refine sym_seq lay_ok mixed [(0, { res := .v (.bool r1) })] [10] [] (⟨[(10, .v (.bool r1))], ⟨[], (wormtublaw05_StreamPlans_R room l by'), []⟩⟩) [.call ⟨[], (wormtublaw05_StreamPlans_R room l by'), []⟩ 12 [] (.v (.bool r1))] S (by kernel_rfl) (by kernel_rfl) (by kernel_rfl) ⟨⟨enters_12, fun _ W _ hm => wormtublaw05_awake_ok  W r1 e1⟩, trivial⟩ ?_
    clear S; intro E a w S
    refine wp_ret ?_
    refine out_then_ret ?_
    have h := Option.some.inj h
    subst h
    exact sym_ret lay_ok [.v (.bool r1)] (by kernel_rfl) rfl S ⟨rfl, S.below rfl⟩
  · have h := bif_f hb1 h
    refine wp_skip ?_
    refine out_then_normal ?_
    obtain ⟨r2, e2, h⟩ := bind_some h
    refine sym_seq lay_ok mixed [(2, { g := 0, res := .tup [.ltr 0 0, iv (r2.2)], hx := some (SlicesAre 0 [(iQZ r2.1)]) })] [0, 1, 2, 3, 4, 11, 12] [0] (⟨[(0, .sl 0), (1, .sl 1), (2, .sl 2), (3, .v (.int .u8 hour)), (4, .v (.int .u32 more)), (11, .ltr 0 0), (12, iv (r2.2))], ⟨[(0, .held (SlicesAre 0 [(iQZ r2.1)]))], (wormtublaw05_StreamPlans_R room l by'), []⟩⟩) [.callx ⟨[], (wormtublaw05_StreamPlans_R room l by'), []⟩ 0 21 [.sl 0, .sl 1] (.tup [.ltr 0 0, iv (r2.2)]) (SlicesAre 0 [(iQZ r2.1)])] S (by kernel_rfl) (by kernel_rfl) (by kernel_rfl) ⟨⟨enters_21, fun E W _ hm => by obtain ⟨A0, c0, q0, l0, s0, _⟩ := Mem.sl hm (s := 0) rfl; obtain ⟨A1, c1, q1, l1, s1, _⟩ := Mem.sl hm (s := 1) rfl; simp only [SV.vals, SV.val, q0, q1]; exact ((stream_Runs_ok fuel room l W A0 c0 l0 s0 A1 c1 l1 s1 r2 e2).mono fun e w' hx => by obtain ⟨v, h1, h2, h3, h4⟩ := hx; exact ⟨v, h1, h2, h3, h4.mono fun _ _ h => .inl h⟩)⟩, trivial⟩ ?_
    clear S; intro E a w S
    obtain ⟨E, S⟩ := St.read 0 0 1003 (iQZ r2.1) (⟨[(0, .sl 0), (1, .sl 1), (2, .sl 2), (3, .v (.int .u8 hour)), (4, .v (.int .u32 more)), (11, .sl 1003), (12, iv (r2.2))], ⟨[(0, .held (SlicesAre 0 [(iQZ r2.1)]))], ((1003, (iQZ r2.1)) :: (wormtublaw05_StreamPlans_R room l by')), []⟩⟩) rfl (fun v w h => h.1) (by intro _ h; cases h) (by kernel_rfl) (by kernel_rfl) S
    refine wp_seq ?_
    refine sym_seq lay_ok mixed [(3, { og := true }), (4, { og := true }), (5, { pk := true })] [0, 1, 2, 3, 4, 11, 12, 47] [] (⟨[(0, .sl 0), (1, .sl 1), (2, .sl 2), (3, .v (.int .u8 hour)), (4, .v (.int .u32 more)), (11, .sl 1003), (12, iv (r2.2)), (47, .v (.bool ((r2.2 != 0) && (r2.2 != 4))))], ⟨[], ((1003, (iQZ r2.1)) :: (wormtublaw05_StreamPlans_R room l by')), []⟩⟩) [.imp (r2.2 != 0) (r2.2 != 0), .imp (r2.2 != 0) (r2.2 != 0)] S (by kernel_rfl) (by kernel_rfl) (by kernel_rfl) ⟨fun h => h, fun h => h, trivial⟩ ?_
    clear S; intro E a w S
    refine sym_if_last (b := ((r2.2 != 0) && (r2.2 != 4))) S rfl (fun hb2 => ?_) (fun hb2 => ?_)
    · have h := bif_t hb2 h
      obtain ⟨r3, e3, h⟩ := bind_some h
      refine sym_seq lay_ok mixed [(4, { og := true, res := .v (.bool r3) }), (5, { pk := true })] [10] [] (⟨[(10, .v (.bool ((((r2.1.length : Nat) : Int) == 0) && r3)))], ⟨[], ((1003, (iQZ r2.1)) :: (wormtublaw05_StreamPlans_R room l by')), []⟩⟩) [.when (((r2.1.length : Nat) : Int) == 0) (.call ⟨[], ((1003, (iQZ r2.1)) :: (wormtublaw05_StreamPlans_R room l by')), []⟩ 12 [] (.v (.bool r3))), .imp (((r2.1.length : Nat) : Int) == 0) (((r2.1.length : Nat) : Int) == 0)] S (by kernel_rfl) (by kernel_rfl) (by kernel_rfl) ⟨fun hW => ⟨enters_12, fun _ W _ hm => wormtublaw05_awake_ok  W r3 (bif_t hW e3)⟩, fun h => h, trivial⟩ ?_
      clear S; intro E a w S
      refine wp_ret ?_
      refine out_then_ret ?_
      have h := Option.some.inj h
      subst h
      exact sym_ret lay_ok [.v (.bool ((((r2.1.length : Nat) : Int) == 0) && r3))] (by kernel_rfl) rfl S ⟨rfl, S.below rfl⟩
    · have h := bif_f hb2 h
      refine wp_skip ?_
      refine out_then_normal ?_
      refine wp_seq ?_
      obtain ⟨r4, e4, h⟩ := bind_some h
      obtain ⟨r5, e5, h⟩ := bind_some h
      refine sym_seq lay_ok mixed [(1, { res := .v (.bool r4) }), (4, { og := true }), (5, { og := true }), (6, { og := true }), (7, { og := true, res := .v (.bool r5) }), (8, { og := true }), (9, { pk := true })] [0, 1, 2, 3, 4, 11, 12, 63] [] (⟨[(0, .sl 0), (1, .sl 1), (2, .sl 2), (3, .v (.int .u8 hour)), (4, .v (.int .u32 more)), (11, .sl 1003), (12, iv (r2.2)), (63, .v (.bool ((!r4) || (!r5))))], ⟨[], ((1003, (iQZ r2.1)) :: (wormtublaw05_StreamPlans_R room l by')), []⟩⟩) [.call ⟨[], ((1003, (iQZ r2.1)) :: (wormtublaw05_StreamPlans_R room l by')), []⟩ 30 [.sl 0] (.v (.bool r4)), .imp (!(!r4)) (!(!r4)), .imp (!(!r4)) (!(!r4)), .imp (!(!r4)) (!(!r4)), .when (!(!r4)) (.call ⟨[], ((1003, (iQZ r2.1)) :: (wormtublaw05_StreamPlans_R room l by')), []⟩ 31 [iv (((room.length : Nat) : Int)), .sl 1] (.v (.bool r5))), .imp (!(!r4)) (!(!r4)), .imp (!(!r4)) (!(!r4))] S (by kernel_rfl) (by kernel_rfl) (by kernel_rfl) ⟨⟨enters_30, fun E W _ hm => by obtain ⟨A0, c0, q0, l0, s0, _⟩ := Mem.sl hm (s := 0) rfl; simp only [SV.vals, SV.val, q0]; exact wormtubref05_Rooms_ok fuel room W A0 c0 l0 s0 r4 e4⟩, fun h => h, fun h => h, fun h => h, fun hW => ⟨enters_31, fun E W _ hm => by obtain ⟨A0, c0, q0, l0, s0, _⟩ := Mem.sl hm (s := 1) rfl; simp only [SV.vals, SV.val, q0]; exact wormtubref05_Burners_ok fuel ((room.length : Nat) : Int) l W A0 c0 l0 s0 r5 (bif_t hW e5)⟩, fun h => h, fun h => h, trivial⟩ ?_
      clear S; intro E a w S
      refine sym_if_last (b := ((!r4) || (!r5))) S rfl (fun hb3 => ?_) (fun hb3 => ?_)
      · have h := bif_t hb3 h
        refine sym_seq lay_ok mixed [] [10] [] (⟨[(10, .v (.bool false))], ⟨[], ((1003, (iQZ r2.1)) :: (wormtublaw05_StreamPlans_R room l by')), []⟩⟩) [] S (by kernel_rfl) (by kernel_rfl) (by kernel_rfl) trivial ?_
        clear S; intro E a w S
        refine wp_ret ?_
        refine out_then_ret ?_
        have h := Option.some.inj h
        subst h
        exact sym_ret lay_ok [.v (.bool false)] (by kernel_rfl) rfl S ⟨rfl, S.below rfl⟩
      · have h := bif_f hb3 h
        refine wp_skip ?_
        refine out_then_normal ?_
        refine sym_seq lay_ok mixed [] [0, 1, 2, 3, 4, 11, 12, 13] [] (⟨[(0, .sl 0), (1, .sl 1), (2, .sl 2), (3, .v (.int .u8 hour)), (4, .v (.int .u32 more)), (11, .sl 1003), (12, iv (r2.2)), (13, .v (.slice none 0 0))], ⟨[], ((1003, (iQZ r2.1)) :: (wormtublaw05_StreamPlans_R room l by')), []⟩⟩) [] S (by kernel_rfl) (by kernel_rfl) (by kernel_rfl) trivial ?_
        clear S; intro E a w S
        refine wp_seq ?_
        refine sym_seq lay_ok mixed [] [0, 1, 2, 3, 4, 11, 12, 13, 14] [] (⟨[(0, .sl 0), (1, .sl 1), (2, .sl 2), (3, .v (.int .u8 hour)), (4, .v (.int .u32 more)), (11, .sl 1003), (12, iv (r2.2)), (13, .v (.slice none 0 0)), (14, iv (0))], ⟨[], ((1003, (iQZ r2.1)) :: (wormtublaw05_StreamPlans_R room l by')), []⟩⟩) [] S (by kernel_rfl) (by kernel_rfl) (by kernel_rfl) trivial ?_
        clear S; intro E a w S
        have S := S.nilgr 0 3 1
        have S := S.reslot (t := 13) (sv' := .gr 0) rfl (by simp [SV.val, SV.subG, Env.updG_same])
        obtain ⟨E, S⟩ : ∃ E, St ⟨W, noC, Go.Proofs.Try.f10.ntmps, [], allR, noρ, (envOf [(0, ⟨A0, room.length, c0, 1⟩), (1, ⟨A1, l.length, c1, 4⟩), (2, ⟨A2, by'.length, c2, 1⟩)]).sl, (envOf [(0, ⟨A0, room.length, c0, 1⟩), (1, ⟨A1, l.length, c1, 4⟩), (2, ⟨A2, by'.length, c2, 1⟩)]).x⟩ (⟨[(0, .sl 0), (1, .sl 1), (2, .sl 2), (3, .v (.int .u8 hour)), (4, .v (.int .u32 more)), (11, .sl 1003), (12, iv (r2.2)), (13, .gr 0), (14, iv (0))], ⟨[], ((1003, (iQZ r2.1)) :: (wormtublaw05_StreamPlans_R room l by')), [(0, ⟨3, 1, ([] : List Int).length, ([] : List Int).flatMap (fun x => [.int .i64 x])⟩)]⟩⟩) E a w := ⟨_, St.pickG S [0, 1, 2, 3, 4, 11, 12, 13, 14] [] [0] (⟨[(0, .sl 0), (1, .sl 1), (2, .sl 2), (3, .v (.int .u8 hour)), (4, .v (.int .u32 more)), (11, .sl 1003), (12, iv (r2.2)), (13, .gr 0), (14, iv (0))], ⟨[], ((1003, (iQZ r2.1)) :: (wormtublaw05_StreamPlans_R room l by')), [(0, ⟨3, 1, ([] : List Int).length, ([] : List Int).flatMap (fun x => [.int .i64 x])⟩)]⟩⟩) (by kernel_rfl)⟩
        obtain ⟨lr1, e6, hp1⟩ := bind_some h
        clear h
        refine sym_block_last (G := fun a w => ∃ E, ∃ x1 : List Int, wormtublaw05_StreamPlans_k3 fuel room l hour more r2 x1 = some res ∧ St ⟨W, noC, Go.Proofs.Try.f10.ntmps, [], allR, noρ, (envOf [(0, ⟨A0, room.length, c0, 1⟩), (1, ⟨A1, l.length, c1, 4⟩), (2, ⟨A2, by'.length, c2, 1⟩)]).sl, (envOf [(0, ⟨A0, room.length, c0, 1⟩), (1, ⟨A1, l.length, c1, 4⟩), (2, ⟨A2, by'.length, c2, 1⟩)]).x⟩ (⟨[(0, .sl 0), (1, .sl 1), (3, .v (.int .u8 hour)), (4, .v (.int .u32 more)), (11, .sl 1003), (12, iv (r2.2)), (13, .gr 0)], ⟨[], ((1003, (iQZ r2.1)) :: (wormtublaw05_StreamPlans_R room l by')), [(0, ⟨3, 1, x1.length, x1.flatMap (fun x => [.int .i64 x])⟩)]⟩⟩) E a w) ?_ ?_
        · refine wp_loop_rounds fuel ?_
          refine sym_rounds (F := fun n b1 => wormtublaw05_StreamPlans_l1 l by' n b1 = some lr1) (H := fun b1 => ⟨[(0, .sl 0), (1, .sl 1), (2, .sl 2), (3, .v (.int .u8 hour)), (4, .v (.int .u32 more)), (11, .sl 1003), (12, iv (r2.2)), (13, .gr 0), (14, iv (b1.1))], ⟨[], ((1003, (iQZ r2.1)) :: (wormtublaw05_StreamPlans_R room l by')), [(0, ⟨3, 1, b1.2.length, b1.2.flatMap (fun x => [.int .i64 x])⟩)]⟩⟩) (0, ([] : List Int)) (fun b hb => by have hb : none = some lr1 := hb; cases hb) ?_ _ _ _ _ e6 (St.cast (P := Go.Proofs.Try.prog) [] [] [0, 1, 2, 3, 4, 11, 12, 13, 14] [] [1003, 0, 1, 2] _ [] (by kernel_rfl) trivial S)
          clear e6 S
          intro n b1 E a w h ih S
          rw [wormtublaw05_StreamPlans_l1] at h
          refine wp_seq ?_
          refine sym_seq lay_ok mixed [(5, { og := true }), (6, { og := true }), (7, { og := true }), (8, { pk := true })] [0, 1, 2, 3, 4, 11, 12, 13, 14, 72] [] (⟨[(0, .sl 0), (1, .sl 1), (2, .sl 2), (3, .v (.int .u8 hour)), (4, .v (.int .u32 more)), (11, .sl 1003), (12, iv (r2.2)), (13, .gr 0), (14, iv (b1.1)), (72, .v (.bool (decide (b1.1 < ((l.length : Nat) : Int)) && decide (0 < ((by'.length : Nat) : Int)))))], ⟨[], ((1003, (iQZ r2.1)) :: (wormtublaw05_StreamPlans_R room l by')), [(0, ⟨3, 1, b1.2.length, b1.2.flatMap (fun x => [.int .i64 x])⟩)]⟩⟩) [.imp (decide (b1.1 < ((l.length : Nat) : Int))) (decide (b1.1 < ((l.length : Nat) : Int))), .imp (decide (b1.1 < ((l.length : Nat) : Int))) (decide (b1.1 < ((l.length : Nat) : Int))), .imp (decide (b1.1 < ((l.length : Nat) : Int))) (decide (b1.1 < ((l.length : Nat) : Int)))] S (by kernel_rfl) (by kernel_rfl) (by kernel_rfl) ⟨fun h => h, fun h => h, fun h => h, trivial⟩ ?_
          clear S; intro E a w S
          refine sym_if_last (b := (decide (b1.1 < ((l.length : Nat) : Int)) && decide (0 < ((by'.length : Nat) : Int)))) S rfl (fun hb4 => ?_) (fun hb4 => ?_)
          · have h := bif_t hb4 h
            refine wp_skip ?_
            refine out_then_normal ?_
            refine wp_seq ?_
            refine wp_block ?_
            obtain ⟨⟨g1, g2, g3, g4, g5, g6, g7, g8, g9, g10⟩, h⟩ := grd_some h
            refine sym_region_cutP lay_ok mixed [(34, { g := 2 })] 35 [0, 1, 2, 3, 4, 11, 12, 13, 14, 75, 109] [2] (⟨[(0, .sl 0), (1, .sl 1), (2, .sl 2), (3, .v (.int .u8 hour)), (4, .v (.int .u32 more)), (11, .sl 1003), (12, iv (r2.2)), (13, .gr 0), (14, iv (b1.1)), (75, .gr 0), (109, .row 2 0 1 1)], ⟨[(2, .blk 3 [iv ((((l.getD (Int.toNat b1.1) default).ready) + ((by'.getD (Int.toNat (b1.1.tmod ((by'.length : Nat) : Int))) default).tmod (((((l.getD (Int.toNat b1.1) default).due) - ((l.getD (Int.toNat b1.1) default).hours)) - ((l.getD (Int.toNat b1.1) default).ready)) + 1))))])], ((1003, (iQZ r2.1)) :: (wormtublaw05_StreamPlans_R room l by')), [(0, ⟨3, 1, b1.2.length, b1.2.flatMap (fun x => [.int .i64 x])⟩)]⟩⟩) [.idx b1.1 l.length, .idx b1.1 l.length, .idx b1.1 l.length, .nz ((by'.length : Nat) : Int), .idx (b1.1.tmod ((by'.length : Nat) : Int)) by'.length, .idx (b1.1.tmod ((by'.length : Nat) : Int)) by'.length, .rng .i64 (by'.getD (Int.toNat (b1.1.tmod ((by'.length : Nat) : Int))) default), .idx b1.1 l.length, .idx b1.1 l.length, .idx b1.1 l.length, .idx b1.1 l.length, .idx b1.1 l.length, .idx b1.1 l.length, .rng .i64 (((l.getD (Int.toNat b1.1) default).due) - ((l.getD (Int.toNat b1.1) default).hours)), .idx b1.1 l.length, .idx b1.1 l.length, .idx b1.1 l.length, .rng .i64 ((((l.getD (Int.toNat b1.1) default).due) - ((l.getD (Int.toNat b1.1) default).hours)) - ((l.getD (Int.toNat b1.1) default).ready)), .rng .i64 (((((l.getD (Int.toNat b1.1) default).due) - ((l.getD (Int.toNat b1.1) default).hours)) - ((l.getD (Int.toNat b1.1) default).ready)) + 1), .nz (((((l.getD (Int.toNat b1.1) default).due) - ((l.getD (Int.toNat b1.1) default).hours)) - ((l.getD (Int.toNat b1.1) default).ready)) + 1), .rng .i64 (((l.getD (Int.toNat b1.1) default).ready) + ((by'.getD (Int.toNat (b1.1.tmod ((by'.length : Nat) : Int))) default).tmod (((((l.getD (Int.toNat b1.1) default).due) - ((l.getD (Int.toNat b1.1) default).hours)) - ((l.getD (Int.toNat b1.1) default).ready)) + 1)))] S (by kernel_rfl) (by kernel_rfl) (by kernel_rfl) ⟨g1, g1, g1, g2, g3, g3, rngI64 g4, g1, g1, g1, g1, g1, g1, rngI64 g5, g1, g1, g1, rngI64 g6, rngI64 g7, g8, rngI64 g9, trivial⟩ (by intro c d v a w h; cases d <;> exact h) ?_
            clear S; intro E a w S
            refine sym_append lay_ok rfl (.tmp 75) (.tmp 109) 33 rfl rfl S 0 2 0 1 1 3 [iv ((((l.getD (Int.toNat b1.1) default).ready) + ((by'.getD (Int.toNat (b1.1.tmod ((by'.length : Nat) : Int))) default).tmod (((((l.getD (Int.toNat b1.1) default).due) - ((l.getD (Int.toNat b1.1) default).hours)) - ((l.getD (Int.toNat b1.1) default).ready)) + 1))))] ⟨3, 1, b1.2.length, b1.2.flatMap (fun x => [.int .i64 x])⟩ ⟨.int .i64, 1, [.int .i64 0], false, 8⟩ ⟨.sli 3 1, 1, [.slice none 0 0], false, 24⟩ rfl rfl rfl rfl rfl rfl rfl rfl (show 0 < 1 by decide) rfl rfl (fun e he => by cases he; exact Nat.lt_of_succ_le (Nat.le_of_ble_eq_true rfl)) ⟨3, 1, (b1.2 ++ [(((l.getD (Int.toNat b1.1) default).ready) + ((by'.getD (Int.toNat (b1.1.tmod ((by'.length : Nat) : Int))) default).tmod (((((l.getD (Int.toNat b1.1) default).due) - ((l.getD (Int.toNat b1.1) default).hours)) - ((l.getD (Int.toNat b1.1) default).ready)) + 1)))]).length, (b1.2 ++ [(((l.getD (Int.toNat b1.1) default).ready) + ((by'.getD (Int.toNat (b1.1.tmod ((by'.length : Nat) : Int))) default).tmod (((((l.getD (Int.toNat b1.1) default).due) - ((l.getD (Int.toNat b1.1) default).hours)) - ((l.getD (Int.toNat b1.1) default).ready)) + 1)))]).flatMap (fun x => [.int .i64 x])⟩ rfl rfl (by simp) (fun E => by simp [SV.vals, SV.val]) (Nat.le_trans g10 (by decide)) (show (b1.2.length + 1) * 8 ≤ 140737488355328 by have := g10; omega) rfl ?_
            clear S; intro v0 E a w S; have S := St.pickG S [0, 1, 2, 3, 4, 11, 12, 14, 109, 110] [2] [0] (⟨[(0, .sl 0), (1, .sl 1), (2, .sl 2), (3, .v (.int .u8 hour)), (4, .v (.int .u32 more)), (11, .sl 1003), (12, iv (r2.2)), (14, iv (b1.1)), (109, .row 2 0 1 1), (110, .gr 0)], ⟨[(2, .blk 3 [iv ((((l.getD (Int.toNat b1.1) default).ready) + ((by'.getD (Int.toNat (b1.1.tmod ((by'.length : Nat) : Int))) default).tmod (((((l.getD (Int.toNat b1.1) default).due) - ((l.getD (Int.toNat b1.1) default).hours)) - ((l.getD (Int.toNat b1.1) default).ready)) + 1))))])], ((1003, (iQZ r2.1)) :: (wormtublaw05_StreamPlans_R room l by')), [(0, ⟨3, 1, (b1.2 ++ [(((l.getD (Int.toNat b1.1) default).ready) + ((by'.getD (Int.toNat (b1.1.tmod ((by'.length : Nat) : Int))) default).tmod (((((l.getD (Int.toNat b1.1) default).due) - ((l.getD (Int.toNat b1.1) default).hours)) - ((l.getD (Int.toNat b1.1) default).ready)) + 1)))]).length, (b1.2 ++ [(((l.getD (Int.toNat b1.1) default).ready) + ((by'.getD (Int.toNat (b1.1.tmod ((by'.length : Nat) : Int))) default).tmod (((((l.getD (Int.toNat b1.1) default).due) - ((l.getD (Int.toNat b1.1) default).hours)) - ((l.getD (Int.toNat b1.1) default).ready)) + 1)))]).flatMap (fun x => [.int .i64 x])⟩)]⟩⟩) (by kernel_rfl)
            refine sym_runP lay_ok [] 36 1 [0, 1, 2, 3, 4, 11, 12, 14, 13] [] (⟨[(0, .sl 0), (1, .sl 1), (2, .sl 2), (3, .v (.int .u8 hour)), (4, .v (.int .u32 more)), (11, .sl 1003), (12, iv (r2.2)), (14, iv (b1.1)), (13, .gr 0)], ⟨[], ((1003, (iQZ r2.1)) :: (wormtublaw05_StreamPlans_R room l by')), [(0, ⟨3, 1, (b1.2 ++ [(((l.getD (Int.toNat b1.1) default).ready) + ((by'.getD (Int.toNat (b1.1.tmod ((by'.length : Nat) : Int))) default).tmod (((((l.getD (Int.toNat b1.1) default).due) - ((l.getD (Int.toNat b1.1) default).hours)) - ((l.getD (Int.toNat b1.1) default).ready)) + 1)))]).length, (b1.2 ++ [(((l.getD (Int.toNat b1.1) default).ready) + ((by'.getD (Int.toNat (b1.1.tmod ((by'.length : Nat) : Int))) default).tmod (((((l.getD (Int.toNat b1.1) default).due) - ((l.getD (Int.toNat b1.1) default).hours)) - ((l.getD (Int.toNat b1.1) default).ready)) + 1)))]).flatMap (fun x => [.int .i64 x])⟩)]⟩⟩) [] S (by kernel_rfl) (by kernel_rfl) trivial ?_
            clear S; intro E a w S
            refine sym_done rfl ?_
            have S := St.pickG S [0, 1, 2, 3, 4, 11, 12, 14, 13] [] [0] (⟨[(0, .sl 0), (1, .sl 1), (2, .sl 2), (3, .v (.int .u8 hour)), (4, .v (.int .u32 more)), (11, .sl 1003), (12, iv (r2.2)), (14, iv (b1.1)), (13, .gr 0)], ⟨[], ((1003, (iQZ r2.1)) :: (wormtublaw05_StreamPlans_R room l by')), [(0, ⟨3, 1, (b1.2 ++ [(((l.getD (Int.toNat b1.1) default).ready) + ((by'.getD (Int.toNat (b1.1.tmod ((by'.length : Nat) : Int))) default).tmod (((((l.getD (Int.toNat b1.1) default).due) - ((l.getD (Int.toNat b1.1) default).hours)) - ((l.getD (Int.toNat b1.1) default).ready)) + 1)))]).length, (b1.2 ++ [(((l.getD (Int.toNat b1.1) default).ready) + ((by'.getD (Int.toNat (b1.1.tmod ((by'.length : Nat) : Int))) default).tmod (((((l.getD (Int.toNat b1.1) default).due) - ((l.getD (Int.toNat b1.1) default).hours)) - ((l.getD (Int.toNat b1.1) default).ready)) + 1)))]).flatMap (fun x => [.int .i64 x])⟩)]⟩⟩) (by kernel_rfl)
            refine out_block_normal ?_
            refine out_then_normal ?_
            obtain ⟨g11, h⟩ := grd_some h
            refine sym_last lay_ok mixed [] [0, 1, 2, 3, 4, 11, 12, 14, 13] [] (⟨[(0, .sl 0), (1, .sl 1), (2, .sl 2), (3, .v (.int .u8 hour)), (4, .v (.int .u32 more)), (11, .sl 1003), (12, iv (r2.2)), (14, iv ((b1.1 + 1))), (13, .gr 0)], ⟨[], ((1003, (iQZ r2.1)) :: (wormtublaw05_StreamPlans_R room l by')), [(0, ⟨3, 1, (b1.2 ++ [(((l.getD (Int.toNat b1.1) default).ready) + ((by'.getD (Int.toNat (b1.1.tmod ((by'.length : Nat) : Int))) default).tmod (((((l.getD (Int.toNat b1.1) default).due) - ((l.getD (Int.toNat b1.1) default).hours)) - ((l.getD (Int.toNat b1.1) default).ready)) + 1)))]).length, (b1.2 ++ [(((l.getD (Int.toNat b1.1) default).ready) + ((by'.getD (Int.toNat (b1.1.tmod ((by'.length : Nat) : Int))) default).tmod (((((l.getD (Int.toNat b1.1) default).due) - ((l.getD (Int.toNat b1.1) default).hours)) - ((l.getD (Int.toNat b1.1) default).ready)) + 1)))]).flatMap (fun x => [.int .i64 x])⟩)]⟩⟩) [.rng .i64 (b1.1 + 1)] S (by kernel_rfl) (by kernel_rfl) (by kernel_rfl) ⟨rngI64 g11, trivial⟩ ?_
            clear S; intro E a w S
            refine out_then_normal ?_
            exact ih ((b1.1 + 1), (b1.2 ++ [(((l.getD (Int.toNat b1.1) default).ready) + ((by'.getD (Int.toNat (b1.1.tmod ((by'.length : Nat) : Int))) default).tmod (((((l.getD (Int.toNat b1.1) default).due) - ((l.getD (Int.toNat b1.1) default).hours)) - ((l.getD (Int.toNat b1.1) default).ready)) + 1)))])) _ _ _ h (St.cast (P := Go.Proofs.Try.prog) [] [] [0, 1, 2, 3, 4, 11, 12, 13, 14] [] [1003, 0, 1, 2] _ [] (by kernel_rfl) trivial S)
          · have h := bif_f hb4 h
            refine wp_exit ?_
            refine out_then_exit ?_
            refine out_then_exit ?_
            refine out_block_here ?_
            refine out_then_normal ?_
            have hr := Option.some.inj h
            subst hr
            exact ⟨_, b1.2, hp1, St.cast (P := Go.Proofs.Try.prog) [] [] [0, 1, 3, 4, 11, 12, 13] [] [1003, 0, 1, 2] _ [] (by kernel_rfl) trivial S⟩
        clear e6 S
        rintro a w ⟨E, x1, h, S⟩
        rw [wormtublaw05_StreamPlans_k3] at h
        refine out_then_normal ?_
        obtain ⟨A9, c9, e9, S⟩ := S.grrd rfl 0 1004 rfl [0, 1, 3, 4, 11, 12, 13] [] [] (by kernel_rfl) (iQZ x1) rfl rfl (flat_get (fun x => [.int .i64 x]) 1 (fun _ => rfl) x1) (by kernel_rfl)
        have S := S.reslot (t := 13) (sv' := .sl 1004) rfl (by simp [SV.val, Env.updS, e9])
        obtain ⟨E, S⟩ : ∃ E, St ⟨W, noC, Go.Proofs.Try.f10.ntmps, [], allR, noρ, (envOf [(0, ⟨A0, room.length, c0, 1⟩), (1, ⟨A1, l.length, c1, 4⟩), (2, ⟨A2, by'.length, c2, 1⟩)]).sl, (envOf [(0, ⟨A0, room.length, c0, 1⟩), (1, ⟨A1, l.length, c1, 4⟩), (2, ⟨A2, by'.length, c2, 1⟩)]).x⟩ (⟨[(0, .sl 0), (1, .sl 1), (3, .v (.int .u8 hour)), (4, .v (.int .u32 more)), (11, .sl 1003), (12, iv (r2.2)), (13, .sl 1004)], ⟨[], ((1004, (iQZ x1)) :: ((1003, (iQZ r2.1)) :: (wormtublaw05_StreamPlans_R room l by'))), []⟩⟩) E a w := ⟨_, St.pickG S [0, 1, 3, 4, 11, 12, 13] [] [] (⟨[(0, .sl 0), (1, .sl 1), (3, .v (.int .u8 hour)), (4, .v (.int .u32 more)), (11, .sl 1003), (12, iv (r2.2)), (13, .sl 1004)], ⟨[], ((1004, (iQZ x1)) :: ((1003, (iQZ r2.1)) :: (wormtublaw05_StreamPlans_R room l by'))), []⟩⟩) (by kernel_rfl)⟩
        clear e9
        obtain ⟨r6, e7, h⟩ := bind_some h
        refine sym_seq lay_ok mixed [(3, { res := .tup [iv (r6.1), .v (.bool r6.2)] })] [0, 1, 3, 4, 11, 12, 13, 15, 16] [] (⟨[(0, .sl 0), (1, .sl 1), (3, .v (.int .u8 hour)), (4, .v (.int .u32 more)), (11, .sl 1003), (12, iv (r2.2)), (13, .sl 1004), (15, iv (r6.1)), (16, .v (.bool r6.2))], ⟨[], ((1004, (iQZ x1)) :: ((1003, (iQZ r2.1)) :: (wormtublaw05_StreamPlans_R room l by'))), []⟩⟩) [.call ⟨[], ((1004, (iQZ x1)) :: ((1003, (iQZ r2.1)) :: (wormtublaw05_StreamPlans_R room l by'))), []⟩ 32 [.sl 0, .sl 1, .sl 1004] (.tup [iv (r6.1), .v (.bool r6.2)])] S (by kernel_rfl) (by kernel_rfl) (by kernel_rfl) ⟨⟨enters_32, fun E W _ hm => by obtain ⟨A0, c0, q0, l0, s0, _⟩ := Mem.sl hm (s := 0) rfl; obtain ⟨A1, c1, q1, l1, s1, _⟩ := Mem.sl hm (s := 1) rfl; obtain ⟨A2, c2, q2, l2, s2, _⟩ := Mem.sl hm (s := 1004) rfl; simp only [SV.vals, SV.val, q0, q1, q2]; exact wormtubref05_Plan_ok fuel room l x1 W A0 c0 l0 s0 A1 c1 l1 s1 A2 c2 l2 s2 r6 e7⟩, trivial⟩ ?_
        clear S; intro E a w S
        refine sym_seq lay_ok mixed [(2, { og := true }), (3, { og := true }), (4, { og := true }), (5, { og := true }), (6, { og := true }), (7, { pk := true })] [0, 1, 3, 4, 11, 12, 13, 15, 16] [] (⟨[(0, .sl 0), (1, .sl 1), (3, .v (.int .u8 hour)), (4, .v (.int .u32 more)), (11, .sl 1003), (12, iv (r2.2)), (13, .sl 1004), (15, iv (r6.1)), (16, .v (.bool (r6.2 && (((x1.length : Nat) : Int) == ((l.length : Nat) : Int)))))], ⟨[], ((1004, (iQZ x1)) :: ((1003, (iQZ r2.1)) :: (wormtublaw05_StreamPlans_R room l by'))), []⟩⟩) [.imp r6.2 r6.2, .imp r6.2 r6.2, .imp r6.2 r6.2, .imp r6.2 r6.2, .imp r6.2 r6.2] S (by kernel_rfl) (by kernel_rfl) (by kernel_rfl) ⟨fun h => h, fun h => h, fun h => h, fun h => h, fun h => h, trivial⟩ ?_
        clear S; intro E a w S
        refine wp_seq ?_
        refine sym_seq lay_ok mixed [] [0, 1, 3, 4, 11, 13, 15, 16, 127] [] (⟨[(0, .sl 0), (1, .sl 1), (3, .v (.int .u8 hour)), (4, .v (.int .u32 more)), (11, .sl 1003), (13, .sl 1004), (15, iv (r6.1)), (16, .v (.bool (r6.2 && (((x1.length : Nat) : Int) == ((l.length : Nat) : Int))))), (127, .v (.bool (r2.2 != 0)))], ⟨[], ((1004, (iQZ x1)) :: ((1003, (iQZ r2.1)) :: (wormtublaw05_StreamPlans_R room l by'))), []⟩⟩) [] S (by kernel_rfl) (by kernel_rfl) (by kernel_rfl) trivial ?_
        clear S; intro E a w S
        refine sym_if_last (b := (r2.2 != 0)) S rfl (fun hb5 => ?_) (fun hb5 => ?_)
        · have h := bif_t hb5 h
          obtain ⟨r7, e8, h⟩ := bind_some h
          refine sym_seq lay_ok mixed [(3, { og := true }), (4, { og := true }), (5, { og := true }), (6, { pk := true }), (8, { og := true, res := .v (.bool r7) }), (9, { pk := true })] [10] [] (⟨[(10, .v (.bool (((!(r6.2 && (((x1.length : Nat) : Int) == ((l.length : Nat) : Int)))) && (((r2.1.length : Nat) : Int) == 0)) && r7)))], ⟨[], ((1004, (iQZ x1)) :: ((1003, (iQZ r2.1)) :: (wormtublaw05_StreamPlans_R room l by'))), []⟩⟩) [.imp (!(r6.2 && (((x1.length : Nat) : Int) == ((l.length : Nat) : Int)))) (!(r6.2 && (((x1.length : Nat) : Int) == ((l.length : Nat) : Int)))), .imp (!(r6.2 && (((x1.length : Nat) : Int) == ((l.length : Nat) : Int)))) (!(r6.2 && (((x1.length : Nat) : Int) == ((l.length : Nat) : Int)))), .imp (!(r6.2 && (((x1.length : Nat) : Int) == ((l.length : Nat) : Int)))) (!(r6.2 && (((x1.length : Nat) : Int) == ((l.length : Nat) : Int)))), .when ((!(r6.2 && (((x1.length : Nat) : Int) == ((l.length : Nat) : Int)))) && (((r2.1.length : Nat) : Int) == 0)) (.call ⟨[], ((1004, (iQZ x1)) :: ((1003, (iQZ r2.1)) :: (wormtublaw05_StreamPlans_R room l by'))), []⟩ 12 [] (.v (.bool r7))), .imp ((!(r6.2 && (((x1.length : Nat) : Int) == ((l.length : Nat) : Int)))) && (((r2.1.length : Nat) : Int) == 0)) ((!(r6.2 && (((x1.length : Nat) : Int) == ((l.length : Nat) : Int)))) && (((r2.1.length : Nat) : Int) == 0))] S (by kernel_rfl) (by kernel_rfl) (by kernel_rfl) ⟨fun h => h, fun h => h, fun h => h, fun hW => ⟨enters_12, fun _ W _ hm => wormtublaw05_awake_ok  W r7 (bif_t hW e8)⟩, fun h => h, trivial⟩ ?_
          clear S; intro E a w S
          refine wp_ret ?_
          refine out_then_ret ?_
          have h := Option.some.inj h
          subst h
          exact sym_ret lay_ok [.v (.bool (((!(r6.2 && (((x1.length : Nat) : Int) == ((l.length : Nat) : Int)))) && (((r2.1.length : Nat) : Int) == 0)) && r7))] (by kernel_rfl) rfl S ⟨rfl, S.below rfl⟩
        · have h := bif_f hb5 h
          refine wp_skip ?_
          refine out_then_normal ?_
          refine wp_seq ?_
          refine sym_seq lay_ok mixed [] [0, 1, 3, 4, 11, 13, 15, 16, 142] [] (⟨[(0, .sl 0), (1, .sl 1), (3, .v (.int .u8 hour)), (4, .v (.int .u32 more)), (11, .sl 1003), (13, .sl 1004), (15, iv (r6.1)), (16, .v (.bool (r6.2 && (((x1.length : Nat) : Int) == ((l.length : Nat) : Int))))), (142, .v (.bool (((r2.1.length : Nat) : Int) != ((l.length : Nat) : Int))))], ⟨[], ((1004, (iQZ x1)) :: ((1003, (iQZ r2.1)) :: (wormtublaw05_StreamPlans_R room l by'))), []⟩⟩) [] S (by kernel_rfl) (by kernel_rfl) (by kernel_rfl) trivial ?_
          clear S; intro E a w S
          refine sym_if_last (b := (((r2.1.length : Nat) : Int) != ((l.length : Nat) : Int))) S rfl (fun hb6 => ?_) (fun hb6 => ?_)
          · have h := bif_t hb6 h
            refine sym_seq lay_ok mixed [] [10] [] (⟨[(10, .v (.bool false))], ⟨[], ((1004, (iQZ x1)) :: ((1003, (iQZ r2.1)) :: (wormtublaw05_StreamPlans_R room l by'))), []⟩⟩) [] S (by kernel_rfl) (by kernel_rfl) (by kernel_rfl) trivial ?_
            clear S; intro E a w S
            refine wp_ret ?_
            refine out_then_ret ?_
            have h := Option.some.inj h
            subst h
            exact sym_ret lay_ok [.v (.bool false)] (by kernel_rfl) rfl S ⟨rfl, S.below rfl⟩
          · have h := bif_f hb6 h
            refine wp_skip ?_
            refine out_then_normal ?_
            refine wp_seq ?_
            refine sym_seq lay_ok mixed [] [0, 1, 3, 4, 11, 13, 15, 16, 17] [] (⟨[(0, .sl 0), (1, .sl 1), (3, .v (.int .u8 hour)), (4, .v (.int .u32 more)), (11, .sl 1003), (13, .sl 1004), (15, iv (r6.1)), (16, .v (.bool (r6.2 && (((x1.length : Nat) : Int) == ((l.length : Nat) : Int))))), (17, iv (0))], ⟨[], ((1004, (iQZ x1)) :: ((1003, (iQZ r2.1)) :: (wormtublaw05_StreamPlans_R room l by'))), []⟩⟩) [] S (by kernel_rfl) (by kernel_rfl) (by kernel_rfl) trivial ?_
            clear S; intro E a w S
            obtain ⟨lr2, e9, hp2⟩ := bind_some h
            clear h
            refine sym_block_last (G := fun a w => ∃ E, ∃ x2 : Unit, wormtublaw05_StreamPlans_k2 fuel room l hour more r2 x1 r6 x2 = some res ∧ St ⟨W, noC, Go.Proofs.Try.f10.ntmps, [], allR, noρ, (envOf [(0, ⟨A0, room.length, c0, 1⟩), (1, ⟨A1, l.length, c1, 4⟩), (2, ⟨A2, by'.length, c2, 1⟩)]).sl, (envOf [(0, ⟨A0, room.length, c0, 1⟩), (1, ⟨A1, l.length, c1, 4⟩), (2, ⟨A2, by'.length, c2, 1⟩)]).x⟩ (⟨[(0, .sl 0), (1, .sl 1), (3, .v (.int .u8 hour)), (4, .v (.int .u32 more)), (11, .sl 1003), (13, .sl 1004), (15, iv (r6.1)), (16, .v (.bool (r6.2 && (((x1.length : Nat) : Int) == ((l.length : Nat) : Int)))))], ⟨[], ((1004, (iQZ x1)) :: ((1003, (iQZ r2.1)) :: (wormtublaw05_StreamPlans_R room l by'))), []⟩⟩) E a w) ?_ ?_
            · refine wp_loop_rounds fuel ?_
              refine sym_rounds (F := fun n b2 => wormtublaw05_StreamPlans_l2 l r2 n b2 = some lr2) (H := fun b2 => ⟨[(0, .sl 0), (1, .sl 1), (3, .v (.int .u8 hour)), (4, .v (.int .u32 more)), (11, .sl 1003), (13, .sl 1004), (15, iv (r6.1)), (16, .v (.bool (r6.2 && (((x1.length : Nat) : Int) == ((l.length : Nat) : Int))))), (17, iv (b2))], ⟨[], ((1004, (iQZ x1)) :: ((1003, (iQZ r2.1)) :: (wormtublaw05_StreamPlans_R room l by'))), []⟩⟩) 0 (fun b hb => by have hb : none = some lr2 := hb; cases hb) ?_ _ _ _ _ e9 (St.cast (P := Go.Proofs.Try.prog) [] [] [0, 1, 3, 4, 11, 13, 15, 16, 17] [] [1004, 1003, 0, 1, 2] _ [] (by kernel_rfl) trivial S)
              clear e9 S
              intro n b2 E a w h ih S
              rw [wormtublaw05_StreamPlans_l2] at h
              refine wp_seq ?_
              refine sym_seq lay_ok mixed [] [0, 1, 3, 4, 11, 13, 15, 16, 17, 146] [] (⟨[(0, .sl 0), (1, .sl 1), (3, .v (.int .u8 hour)), (4, .v (.int .u32 more)), (11, .sl 1003), (13, .sl 1004), (15, iv (r6.1)), (16, .v (.bool (r6.2 && (((x1.length : Nat) : Int) == ((l.length : Nat) : Int))))), (17, iv (b2)), (146, .v (.bool (decide (b2 < ((r2.1.length : Nat) : Int)))))], ⟨[], ((1004, (iQZ x1)) :: ((1003, (iQZ r2.1)) :: (wormtublaw05_StreamPlans_R room l by'))), []⟩⟩) [] S (by kernel_rfl) (by kernel_rfl) (by kernel_rfl) trivial ?_
              clear S; intro E a w S
              refine sym_if_last (b := decide (b2 < ((r2.1.length : Nat) : Int))) S rfl (fun hb7 => ?_) (fun hb7 => ?_)
              · have h := bif_t hb7 h
                refine wp_skip ?_
                refine out_then_normal ?_
                refine wp_seq ?_
                refine wp_block ?_
                obtain ⟨⟨g12, g13, g14, g15, g16⟩, h⟩ := grd_some h
                refine sym_seq lay_ok mixed [(11, { og := true }), (12, { og := true }), (13, { og := true }), (14, { og := true }), (15, { og := true }), (16, { og := true }), (17, { og := true }), (18, { og := true }), (19, { og := true }), (20, { og := true }), (21, { og := true }), (22, { og := true }), (23, { og := true }), (24, { og := true }), (25, { og := true }), (26, { og := true }), (27, { pk := true })] [0, 1, 3, 4, 11, 13, 15, 16, 17, 176] [] (⟨[(0, .sl 0), (1, .sl 1), (3, .v (.int .u8 hour)), (4, .v (.int .u32 more)), (11, .sl 1003), (13, .sl 1004), (15, iv (r6.1)), (16, .v (.bool (r6.2 && (((x1.length : Nat) : Int) == ((l.length : Nat) : Int))))), (17, iv (b2)), (176, .v (.bool (decide ((r2.1.getD (Int.toNat b2) default) < ((l.getD (Int.toNat b2) default).ready)) || decide (((l.getD (Int.toNat b2) default).due) < ((r2.1.getD (Int.toNat b2) default) + ((l.getD (Int.toNat b2) default).hours))))))], ⟨[], ((1004, (iQZ x1)) :: ((1003, (iQZ r2.1)) :: (wormtublaw05_StreamPlans_R room l by'))), []⟩⟩) [.idx b2 r2.1.length, .idx b2 r2.1.length, .idx b2 l.length, .idx b2 l.length, .idx b2 l.length, .imp (!(decide ((r2.1.getD (Int.toNat b2) default) < ((l.getD (Int.toNat b2) default).ready)))) (!(decide ((r2.1.getD (Int.toNat b2) default) < ((l.getD (Int.toNat b2) default).ready)))), .imp (!(decide ((r2.1.getD (Int.toNat b2) default) < ((l.getD (Int.toNat b2) default).ready)))) (!(decide ((r2.1.getD (Int.toNat b2) default) < ((l.getD (Int.toNat b2) default).ready)))), .when (!(decide ((r2.1.getD (Int.toNat b2) default) < ((l.getD (Int.toNat b2) default).ready)))) (.idx b2 r2.1.length), .imp (!(decide ((r2.1.getD (Int.toNat b2) default) < ((l.getD (Int.toNat b2) default).ready)))) (!(decide ((r2.1.getD (Int.toNat b2) default) < ((l.getD (Int.toNat b2) default).ready)))), .when (!(decide ((r2.1.getD (Int.toNat b2) default) < ((l.getD (Int.toNat b2) default).ready)))) (.idx b2 r2.1.length), .imp (!(decide ((r2.1.getD (Int.toNat b2) default) < ((l.getD (Int.toNat b2) default).ready)))) (!(decide ((r2.1.getD (Int.toNat b2) default) < ((l.getD (Int.toNat b2) default).ready)))), .imp (!(decide ((r2.1.getD (Int.toNat b2) default) < ((l.getD (Int.toNat b2) default).ready)))) (!(decide ((r2.1.getD (Int.toNat b2) default) < ((l.getD (Int.toNat b2) default).ready)))), .when (!(decide ((r2.1.getD (Int.toNat b2) default) < ((l.getD (Int.toNat b2) default).ready)))) (.idx b2 l.length), .imp (!(decide ((r2.1.getD (Int.toNat b2) default) < ((l.getD (Int.toNat b2) default).ready)))) (!(decide ((r2.1.getD (Int.toNat b2) default) < ((l.getD (Int.toNat b2) default).ready)))), .when (!(decide ((r2.1.getD (Int.toNat b2) default) < ((l.getD (Int.toNat b2) default).ready)))) (.idx b2 l.length), .imp (!(decide ((r2.1.getD (Int.toNat b2) default) < ((l.getD (Int.toNat b2) default).ready)))) (!(decide ((r2.1.getD (Int.toNat b2) default) < ((l.getD (Int.toNat b2) default).ready)))), .when (!(decide ((r2.1.getD (Int.toNat b2) default) < ((l.getD (Int.toNat b2) default).ready)))) (.idx b2 l.length), .imp (!(decide ((r2.1.getD (Int.toNat b2) default) < ((l.getD (Int.toNat b2) default).ready)))) (!(decide ((r2.1.getD (Int.toNat b2) default) < ((l.getD (Int.toNat b2) default).ready)))), .imp (!(decide ((r2.1.getD (Int.toNat b2) default) < ((l.getD (Int.toNat b2) default).ready)))) (!(decide ((r2.1.getD (Int.toNat b2) default) < ((l.getD (Int.toNat b2) default).ready)))), .when (!(decide ((r2.1.getD (Int.toNat b2) default) < ((l.getD (Int.toNat b2) default).ready)))) (.rng .i64 ((r2.1.getD (Int.toNat b2) default) + ((l.getD (Int.toNat b2) default).hours))), .imp (!(decide ((r2.1.getD (Int.toNat b2) default) < ((l.getD (Int.toNat b2) default).ready)))) (!(decide ((r2.1.getD (Int.toNat b2) default) < ((l.getD (Int.toNat b2) default).ready)))), .imp (!(decide ((r2.1.getD (Int.toNat b2) default) < ((l.getD (Int.toNat b2) default).ready)))) (!(decide ((r2.1.getD (Int.toNat b2) default) < ((l.getD (Int.toNat b2) default).ready)))), .when (!(decide ((r2.1.getD (Int.toNat b2) default) < ((l.getD (Int.toNat b2) default).ready)))) (.idx b2 l.length), .imp (!(decide ((r2.1.getD (Int.toNat b2) default) < ((l.getD (Int.toNat b2) default).ready)))) (!(decide ((r2.1.getD (Int.toNat b2) default) < ((l.getD (Int.toNat b2) default).ready)))), .when (!(decide ((r2.1.getD (Int.toNat b2) default) < ((l.getD (Int.toNat b2) default).ready)))) (.idx b2 l.length), .imp (!(decide ((r2.1.getD (Int.toNat b2) default) < ((l.getD (Int.toNat b2) default).ready)))) (!(decide ((r2.1.getD (Int.toNat b2) default) < ((l.getD (Int.toNat b2) default).ready)))), .when (!(decide ((r2.1.getD (Int.toNat b2) default) < ((l.getD (Int.toNat b2) default).ready)))) (.idx b2 l.length), .imp (!(decide ((r2.1.getD (Int.toNat b2) default) < ((l.getD (Int.toNat b2) default).ready)))) (!(decide ((r2.1.getD (Int.toNat b2) default) < ((l.getD (Int.toNat b2) default).ready)))), .imp (!(decide ((r2.1.getD (Int.toNat b2) default) < ((l.getD (Int.toNat b2) default).ready)))) (!(decide ((r2.1.getD (Int.toNat b2) default) < ((l.getD (Int.toNat b2) default).ready)))), .imp (!(decide ((r2.1.getD (Int.toNat b2) default) < ((l.getD (Int.toNat b2) default).ready)))) (!(decide ((r2.1.getD (Int.toNat b2) default) < ((l.getD (Int.toNat b2) default).ready))))] S (by kernel_rfl) (by kernel_rfl) (by kernel_rfl) (by exact ⟨g12, g12, g13, g13, g13, fun h => h, fun h => h, fun hW => (g14 hW), fun h => h, fun hW => (g14 hW), fun h => h, fun h => h, fun hW => (g15 hW), fun h => h, fun hW => (g15 hW), fun h => h, fun hW => (g15 hW), fun h => h, fun h => h, fun hW => rngI64 (g16 hW), fun h => h, fun h => h, fun hW => (g15 hW), fun h => h, fun hW => (g15 hW), fun h => h, fun hW => (g15 hW), fun h => h, fun h => h, fun h => h, trivial⟩) ?_
                clear S; intro E a w S
                refine sym_if_last (b := (decide ((r2.1.getD (Int.toNat b2) default) < ((l.getD (Int.toNat b2) default).ready)) || decide (((l.getD (Int.toNat b2) default).due) < ((r2.1.getD (Int.toNat b2) default) + ((l.getD (Int.toNat b2) default).hours))))) S rfl (fun hb8 => ?_) (fun hb8 => ?_)
                · have h := bif_t hb8 h
                  refine sym_seq lay_ok mixed [] [10] [] (⟨[(10, .v (.bool false))], ⟨[], ((1004, (iQZ x1)) :: ((1003, (iQZ r2.1)) :: (wormtublaw05_StreamPlans_R room l by'))), []⟩⟩) [] S (by kernel_rfl) (by kernel_rfl) (by kernel_rfl) trivial ?_
                  clear S; intro E a w S
                  refine wp_ret ?_
                  refine out_block_ret ?_
                  refine out_then_ret ?_
                  refine out_then_ret ?_
                  refine out_block_ret ?_
                  refine out_then_ret ?_
                  refine out_then_ret ?_
                  have hr := Option.some.inj h
                  subst hr
                  have hr := Option.some.inj hp2
                  subst hr
                  exact sym_ret lay_ok [.v (.bool false)] (by kernel_rfl) rfl S ⟨rfl, S.below rfl⟩
                · have h := bif_f hb8 h
                  refine wp_skip ?_
                  refine out_block_normal ?_
                  refine out_then_normal ?_
                  obtain ⟨g17, h⟩ := grd_some h
                  refine sym_last lay_ok mixed [] [0, 1, 3, 4, 11, 13, 15, 16, 17] [] (⟨[(0, .sl 0), (1, .sl 1), (3, .v (.int .u8 hour)), (4, .v (.int .u32 more)), (11, .sl 1003), (13, .sl 1004), (15, iv (r6.1)), (16, .v (.bool (r6.2 && (((x1.length : Nat) : Int) == ((l.length : Nat) : Int))))), (17, iv ((b2 + 1)))], ⟨[], ((1004, (iQZ x1)) :: ((1003, (iQZ r2.1)) :: (wormtublaw05_StreamPlans_R room l by'))), []⟩⟩) [.rng .i64 (b2 + 1)] S (by kernel_rfl) (by kernel_rfl) (by kernel_rfl) ⟨rngI64 g17, trivial⟩ ?_
                  clear S; intro E a w S
                  refine out_then_normal ?_
                  exact ih (b2 + 1) _ _ _ h (St.cast (P := Go.Proofs.Try.prog) [] [] [0, 1, 3, 4, 11, 13, 15, 16, 17] [] [1004, 1003, 0, 1, 2] _ [] (by kernel_rfl) trivial S)
              · have h := bif_f hb7 h
                refine wp_exit ?_
                refine out_then_exit ?_
                refine out_then_exit ?_
                refine out_block_here ?_
                refine out_then_normal ?_
                have hr := Option.some.inj h
                subst hr
                exact ⟨_, (), hp2, St.cast (P := Go.Proofs.Try.prog) [] [] [0, 1, 3, 4, 11, 13, 15, 16] [] [1004, 1003, 0, 1, 2] _ [] (by kernel_rfl) trivial S⟩
            clear e9 S
            rintro a w ⟨E, x2, h, S⟩
            rw [wormtublaw05_StreamPlans_k2] at h
            refine out_then_normal ?_
            obtain ⟨r8, e10, h⟩ := bind_some h
            refine sym_seq lay_ok mixed [(3, { res := .tup [iv (r8.1), .v (.bool r8.2)] })] [0, 1, 3, 4, 11, 13, 15, 16, 18, 19] [] (⟨[(0, .sl 0), (1, .sl 1), (3, .v (.int .u8 hour)), (4, .v (.int .u32 more)), (11, .sl 1003), (13, .sl 1004), (15, iv (r6.1)), (16, .v (.bool (r6.2 && (((x1.length : Nat) : Int) == ((l.length : Nat) : Int))))), (18, iv (r8.1)), (19, .v (.bool r8.2))], ⟨[], ((1004, (iQZ x1)) :: ((1003, (iQZ r2.1)) :: (wormtublaw05_StreamPlans_R room l by'))), []⟩⟩) [.call ⟨[], ((1004, (iQZ x1)) :: ((1003, (iQZ r2.1)) :: (wormtublaw05_StreamPlans_R room l by'))), []⟩ 32 [.sl 0, .sl 1, .sl 1003] (.tup [iv (r8.1), .v (.bool r8.2)])] S (by kernel_rfl) (by kernel_rfl) (by kernel_rfl) ⟨⟨enters_32, fun E W _ hm => by obtain ⟨A0, c0, q0, l0, s0, _⟩ := Mem.sl hm (s := 0) rfl; obtain ⟨A1, c1, q1, l1, s1, _⟩ := Mem.sl hm (s := 1) rfl; obtain ⟨A2, c2, q2, l2, s2, _⟩ := Mem.sl hm (s := 1003) rfl; simp only [SV.vals, SV.val, q0, q1, q2]; exact wormtubref05_Plan_ok fuel room l r2.1 W A0 c0 l0 s0 A1 c1 l1 s1 A2 c2 l2 s2 r8 e10⟩, trivial⟩ ?_
            clear S; intro E a w S
            refine wp_seq ?_
            refine sym_seq lay_ok mixed [(3, { og := true }), (4, { og := true }), (5, { og := true }), (6, { og := true }), (7, { og := true }), (8, { og := true, pk := true }), (9, { pk := true })] [0, 1, 3, 4, 11, 13, 15, 16, 18, 193] [] (⟨[(0, .sl 0), (1, .sl 1), (3, .v (.int .u8 hour)), (4, .v (.int .u32 more)), (11, .sl 1003), (13, .sl 1004), (15, iv (r6.1)), (16, .v (.bool (r6.2 && (((x1.length : Nat) : Int) == ((l.length : Nat) : Int))))), (18, iv (r8.1)), (193, .v (.bool ((!r8.2) || ((r6.2 && (((x1.length : Nat) : Int) == ((l.length : Nat) : Int))) && decide (r6.1 < r8.1)))))], ⟨[], ((1004, (iQZ x1)) :: ((1003, (iQZ r2.1)) :: (wormtublaw05_StreamPlans_R room l by'))), []⟩⟩) [.imp (!(!r8.2)) (!(!r8.2)), .imp ((!(!r8.2)) && (r6.2 && (((x1.length : Nat) : Int) == ((l.length : Nat) : Int)))) ((!(!r8.2)) && (r6.2 && (((x1.length : Nat) : Int) == ((l.length : Nat) : Int)))), .imp ((!(!r8.2)) && (r6.2 && (((x1.length : Nat) : Int) == ((l.length : Nat) : Int)))) ((!(!r8.2)) && (r6.2 && (((x1.length : Nat) : Int) == ((l.length : Nat) : Int)))), .imp (!(!r8.2)) (!(!r8.2)), .when (!(!r8.2)) (.imp (r6.2 && (((x1.length : Nat) : Int) == ((l.length : Nat) : Int))) ((!(!r8.2)) && (r6.2 && (((x1.length : Nat) : Int) == ((l.length : Nat) : Int))))), .imp (!(!r8.2)) (!(!r8.2))] S (by kernel_rfl) (by kernel_rfl) (by kernel_rfl) ⟨fun h => h, fun h => h, fun h => h, fun h => h, fun hW => (by intro h; simp_all), fun h => h, trivial⟩ ?_
            clear S; intro E a w S
            refine sym_if_last (b := ((!r8.2) || ((r6.2 && (((x1.length : Nat) : Int) == ((l.length : Nat) : Int))) && decide (r6.1 < r8.1)))) S rfl (fun hb9 => ?_) (fun hb9 => ?_)
            · have h := bif_t hb9 h
              refine sym_seq lay_ok mixed [] [10] [] (⟨[(10, .v (.bool false))], ⟨[], ((1004, (iQZ x1)) :: ((1003, (iQZ r2.1)) :: (wormtublaw05_StreamPlans_R room l by'))), []⟩⟩) [] S (by kernel_rfl) (by kernel_rfl) (by kernel_rfl) trivial ?_
              clear S; intro E a w S
              refine wp_ret ?_
              refine out_then_ret ?_
              have h := Option.some.inj h
              subst h
              exact sym_ret lay_ok [.v (.bool false)] (by kernel_rfl) rfl S ⟨rfl, S.below rfl⟩
            · have h := bif_f hb9 h
              refine wp_skip ?_
              refine out_then_normal ?_
              refine wp_seq ?_
              refine sym_seq lay_ok mixed [(2, { og := true }), (3, { og := true }), (4, { og := true }), (5, { pk := true })] [0, 1, 3, 4, 11, 13, 18, 199] [] (⟨[(0, .sl 0), (1, .sl 1), (3, .v (.int .u8 hour)), (4, .v (.int .u32 more)), (11, .sl 1003), (13, .sl 1004), (18, iv (r8.1)), (199, .v (.bool ((r6.2 && (((x1.length : Nat) : Int) == ((l.length : Nat) : Int))) && (r6.1 == r8.1))))], ⟨[], ((1004, (iQZ x1)) :: ((1003, (iQZ r2.1)) :: (wormtublaw05_StreamPlans_R room l by'))), []⟩⟩) [.imp (r6.2 && (((x1.length : Nat) : Int) == ((l.length : Nat) : Int))) (r6.2 && (((x1.length : Nat) : Int) == ((l.length : Nat) : Int))), .imp (r6.2 && (((x1.length : Nat) : Int) == ((l.length : Nat) : Int))) (r6.2 && (((x1.length : Nat) : Int) == ((l.length : Nat) : Int))), .imp (r6.2 && (((x1.length : Nat) : Int) == ((l.length : Nat) : Int))) (r6.2 && (((x1.length : Nat) : Int) == ((l.length : Nat) : Int)))] S (by kernel_rfl) (by kernel_rfl) (by kernel_rfl) ⟨fun h => h, fun h => h, fun h => h, trivial⟩ ?_
              clear S; intro E a w S
              refine sym_if_last (b := ((r6.2 && (((x1.length : Nat) : Int) == ((l.length : Nat) : Int))) && (r6.1 == r8.1))) S rfl (fun hb10 => ?_) (fun hb10 => ?_)
              · have h := bif_t hb10 h
                refine sym_seq lay_ok mixed [] [0, 1, 3, 4, 11, 13, 18, 20] [] (⟨[(0, .sl 0), (1, .sl 1), (3, .v (.int .u8 hour)), (4, .v (.int .u32 more)), (11, .sl 1003), (13, .sl 1004), (18, iv (r8.1)), (20, iv (0))], ⟨[], ((1004, (iQZ x1)) :: ((1003, (iQZ r2.1)) :: (wormtublaw05_StreamPlans_R room l by'))), []⟩⟩) [] S (by kernel_rfl) (by kernel_rfl) (by kernel_rfl) trivial ?_
                clear S; intro E a w S
                obtain ⟨lr3, e11, hp3⟩ := bind_some h
                clear h
                refine sym_block_last (G := fun a w => ∃ E, ∃ x3 : Unit, wormtublaw05_StreamPlans_k1 fuel room l hour more r8 x3 = some res ∧ St ⟨W, noC, Go.Proofs.Try.f10.ntmps, [], allR, noρ, (envOf [(0, ⟨A0, room.length, c0, 1⟩), (1, ⟨A1, l.length, c1, 4⟩), (2, ⟨A2, by'.length, c2, 1⟩)]).sl, (envOf [(0, ⟨A0, room.length, c0, 1⟩), (1, ⟨A1, l.length, c1, 4⟩), (2, ⟨A2, by'.length, c2, 1⟩)]).x⟩ (⟨[(0, .sl 0), (1, .sl 1), (3, .v (.int .u8 hour)), (4, .v (.int .u32 more)), (18, iv (r8.1))], ⟨[], ((1004, (iQZ x1)) :: ((1003, (iQZ r2.1)) :: (wormtublaw05_StreamPlans_R room l by'))), []⟩⟩) E a w) ?_ ?_
                · refine wp_loop_rounds fuel ?_
                  refine sym_rounds (F := fun n b3 => wormtublaw05_StreamPlans_l3 r2 x1 n b3 = some lr3) (H := fun b3 => ⟨[(0, .sl 0), (1, .sl 1), (3, .v (.int .u8 hour)), (4, .v (.int .u32 more)), (11, .sl 1003), (13, .sl 1004), (18, iv (r8.1)), (20, iv (b3))], ⟨[], ((1004, (iQZ x1)) :: ((1003, (iQZ r2.1)) :: (wormtublaw05_StreamPlans_R room l by'))), []⟩⟩) 0 (fun b hb => by have hb : none = some lr3 := hb; cases hb) ?_ _ _ _ _ e11 (St.cast (P := Go.Proofs.Try.prog) [] [] [0, 1, 3, 4, 11, 13, 18, 20] [] [1004, 1003, 0, 1, 2] _ [] (by kernel_rfl) trivial S)
                  clear e11 S
                  intro n b3 E a w h ih S
                  rw [wormtublaw05_StreamPlans_l3] at h
                  refine wp_seq ?_
                  refine sym_seq lay_ok mixed [] [0, 1, 3, 4, 11, 13, 18, 20, 203] [] (⟨[(0, .sl 0), (1, .sl 1), (3, .v (.int .u8 hour)), (4, .v (.int .u32 more)), (11, .sl 1003), (13, .sl 1004), (18, iv (r8.1)), (20, iv (b3)), (203, .v (.bool (decide (b3 < ((r2.1.length : Nat) : Int)))))], ⟨[], ((1004, (iQZ x1)) :: ((1003, (iQZ r2.1)) :: (wormtublaw05_StreamPlans_R room l by'))), []⟩⟩) [] S (by kernel_rfl) (by kernel_rfl) (by kernel_rfl) trivial ?_
                  clear S; intro E a w S
                  refine sym_if_last (b := decide (b3 < ((r2.1.length : Nat) : Int))) S rfl (fun hb11 => ?_) (fun hb11 => ?_)
                  · have h := bif_t hb11 h
                    refine wp_skip ?_
                    refine out_then_normal ?_
                    refine wp_seq ?_
                    refine wp_block ?_
                    obtain ⟨⟨g18, g19⟩, h⟩ := grd_some h
                    refine sym_seq lay_ok mixed [] [0, 1, 3, 4, 11, 13, 18, 20, 214] [] (⟨[(0, .sl 0), (1, .sl 1), (3, .v (.int .u8 hour)), (4, .v (.int .u32 more)), (11, .sl 1003), (13, .sl 1004), (18, iv (r8.1)), (20, iv (b3)), (214, .v (.bool ((r2.1.getD (Int.toNat b3) default) != (x1.getD (Int.toNat b3) default))))], ⟨[], ((1004, (iQZ x1)) :: ((1003, (iQZ r2.1)) :: (wormtublaw05_StreamPlans_R room l by'))), []⟩⟩) [.idx b3 r2.1.length, .idx b3 r2.1.length, .idx b3 x1.length, .idx b3 x1.length] S (by kernel_rfl) (by kernel_rfl) (by kernel_rfl) ⟨g18, g18, g19, g19, trivial⟩ ?_
                    clear S; intro E a w S
                    refine sym_if_last (b := ((r2.1.getD (Int.toNat b3) default) != (x1.getD (Int.toNat b3) default))) S rfl (fun hb12 => ?_) (fun hb12 => ?_)
                    · have h := bif_t hb12 h
                      refine wp_seq ?_
                      refine sym_seq lay_ok mixed [] [0, 1, 3, 4, 18, 223] [] (⟨[(0, .sl 0), (1, .sl 1), (3, .v (.int .u8 hour)), (4, .v (.int .u32 more)), (18, iv (r8.1)), (223, .v (.bool (decide ((x1.getD (Int.toNat b3) default) < (r2.1.getD (Int.toNat b3) default)))))], ⟨[], ((1004, (iQZ x1)) :: ((1003, (iQZ r2.1)) :: (wormtublaw05_StreamPlans_R room l by'))), []⟩⟩) [.idx b3 x1.length, .idx b3 x1.length, .idx b3 r2.1.length, .idx b3 r2.1.length] S (by kernel_rfl) (by kernel_rfl) (by kernel_rfl) ⟨g19, g19, g18, g18, trivial⟩ ?_
                      clear S; intro E a w S
                      refine sym_if_last (b := decide ((x1.getD (Int.toNat b3) default) < (r2.1.getD (Int.toNat b3) default))) S rfl (fun hb13 => ?_) (fun hb13 => ?_)
                      · have h := bif_t hb13 h
                        refine sym_seq lay_ok mixed [] [10] [] (⟨[(10, .v (.bool false))], ⟨[], ((1004, (iQZ x1)) :: ((1003, (iQZ r2.1)) :: (wormtublaw05_StreamPlans_R room l by'))), []⟩⟩) [] S (by kernel_rfl) (by kernel_rfl) (by kernel_rfl) trivial ?_
                        clear S; intro E a w S
                        refine wp_ret ?_
                        refine out_then_ret ?_
                        refine out_block_ret ?_
                        refine out_then_ret ?_
                        refine out_then_ret ?_
                        refine out_block_ret ?_
                        refine out_then_ret ?_
                        refine out_then_ret ?_
                        have hr := Option.some.inj h
                        subst hr
                        have hr := Option.some.inj hp3
                        subst hr
                        exact sym_ret lay_ok [.v (.bool false)] (by kernel_rfl) rfl S ⟨rfl, S.below rfl⟩
                      · have h := bif_f hb13 h
                        refine wp_skip ?_
                        refine out_then_normal ?_
                        refine wp_exit ?_
                        refine out_block_exit (by decide) ?_
                        refine out_then_exit ?_
                        refine out_then_exit ?_
                        refine out_block_here ?_
                        refine out_then_normal ?_
                        have hr := Option.some.inj h
                        subst hr
                        exact ⟨_, (), hp3, St.cast (P := Go.Proofs.Try.prog) [] [] [0, 1, 3, 4, 18] [] [1004, 1003, 0, 1, 2] _ [] (by kernel_rfl) trivial S⟩
                    · have h := bif_f hb12 h
                      refine wp_skip ?_
                      refine out_block_normal ?_
                      refine out_then_normal ?_
                      obtain ⟨g20, h⟩ := grd_some h
                      refine sym_last lay_ok mixed [] [0, 1, 3, 4, 11, 13, 18, 20] [] (⟨[(0, .sl 0), (1, .sl 1), (3, .v (.int .u8 hour)), (4, .v (.int .u32 more)), (11, .sl 1003), (13, .sl 1004), (18, iv (r8.1)), (20, iv ((b3 + 1)))], ⟨[], ((1004, (iQZ x1)) :: ((1003, (iQZ r2.1)) :: (wormtublaw05_StreamPlans_R room l by'))), []⟩⟩) [.rng .i64 (b3 + 1)] S (by kernel_rfl) (by kernel_rfl) (by kernel_rfl) ⟨rngI64 g20, trivial⟩ ?_
                      clear S; intro E a w S
                      refine out_then_normal ?_
                      exact ih (b3 + 1) _ _ _ h (St.cast (P := Go.Proofs.Try.prog) [] [] [0, 1, 3, 4, 11, 13, 18, 20] [] [1004, 1003, 0, 1, 2] _ [] (by kernel_rfl) trivial S)
                  · have h := bif_f hb11 h
                    refine wp_exit ?_
                    refine out_then_exit ?_
                    refine out_then_exit ?_
                    refine out_block_here ?_
                    refine out_then_normal ?_
                    have hr := Option.some.inj h
                    subst hr
                    exact ⟨_, (), hp3, St.cast (P := Go.Proofs.Try.prog) [] [] [0, 1, 3, 4, 18] [] [1004, 1003, 0, 1, 2] _ [] (by kernel_rfl) trivial S⟩
                clear e11 S
                rintro a w ⟨E, x3, h, S⟩
                rw [wormtublaw05_StreamPlans_k1] at h
                refine out_then_normal ?_
                refine wp_seq ?_
                refine sym_seq lay_ok mixed [] [0, 1, 3, 4, 18, 226] [] (⟨[(0, .sl 0), (1, .sl 1), (3, .v (.int .u8 hour)), (4, .v (.int .u32 more)), (18, iv (r8.1)), (226, .v (.bool (((room.length : Nat) : Int) == 0)))], ⟨[], ((1004, (iQZ x1)) :: ((1003, (iQZ r2.1)) :: (wormtublaw05_StreamPlans_R room l by'))), []⟩⟩) [] S (by kernel_rfl) (by kernel_rfl) (by kernel_rfl) trivial ?_
                clear S; intro E a w S
                refine sym_if_last (b := (((room.length : Nat) : Int) == 0)) S rfl (fun hb14 => ?_) (fun hb14 => ?_)
                · have h := bif_t hb14 h
                  obtain ⟨r9, e12, h⟩ := bind_some h
                  refine sym_seq lay_ok mixed [(0, { res := .v (.bool r9) })] [10] [] (⟨[(10, .v (.bool r9))], ⟨[], ((1004, (iQZ x1)) :: ((1003, (iQZ r2.1)) :: (wormtublaw05_StreamPlans_R room l by'))), []⟩⟩) [.call ⟨[], ((1004, (iQZ x1)) :: ((1003, (iQZ r2.1)) :: (wormtublaw05_StreamPlans_R room l by'))), []⟩ 12 [] (.v (.bool r9))] S (by kernel_rfl) (by kernel_rfl) (by kernel_rfl) ⟨⟨enters_12, fun _ W _ hm => wormtublaw05_awake_ok  W r9 e12⟩, trivial⟩ ?_
                  clear S; intro E a w S
                  refine wp_ret ?_
                  refine out_then_ret ?_
                  have h := Option.some.inj h
                  subst h
                  exact sym_ret lay_ok [.v (.bool r9)] (by kernel_rfl) rfl S ⟨rfl, S.below rfl⟩
                · have h := bif_f hb14 h
                  refine wp_skip ?_
                  refine out_then_normal ?_
                  obtain ⟨g21, h⟩ := grd_some h
                  refine sym_open ?_
                  refine sym_runP lay_ok [(0, { g := 3 })] 0 2 [1, 3, 4, 18, 228, 229] [3] (⟨[(1, .sl 1), (3, .v (.int .u8 hour)), (4, .v (.int .u32 more)), (18, iv (r8.1)), (228, .row 3 0 0 0), (229, .sl 0)], ⟨[(3, .blk 3 [])], ((1004, (iQZ x1)) :: ((1003, (iQZ r2.1)) :: (wormtublaw05_StreamPlans_R room l by'))), []⟩⟩) [] S (by kernel_rfl) (by kernel_rfl) trivial ?_
                  clear S; intro E a w S
                  have S := S.rowgr 3 1 rfl ⟨3, 1, ([] : List Int).length, ([] : List Int).flatMap (fun x => [.int .i64 x])⟩ (.slice (some ⟨E.ρ 3, 0, none⟩) 0 0) rfl (S.litgr rfl 1 0 _ rfl (by decide) (by simp [SV.vals, SV.val])) rfl [1, 3, 4, 18, 228, 229] [] (by kernel_rfl)
                  have S := S.reslot (t := 228) (sv' := .gr 1) rfl (by simp [SV.val, SV.subG, Env.updG])
                  obtain ⟨E, S⟩ : ∃ E, St ⟨W, noC, Go.Proofs.Try.f10.ntmps, [], allR, noρ, (envOf [(0, ⟨A0, room.length, c0, 1⟩), (1, ⟨A1, l.length, c1, 4⟩), (2, ⟨A2, by'.length, c2, 1⟩)]).sl, (envOf [(0, ⟨A0, room.length, c0, 1⟩), (1, ⟨A1, l.length, c1, 4⟩), (2, ⟨A2, by'.length, c2, 1⟩)]).x⟩ (⟨[(1, .sl 1), (3, .v (.int .u8 hour)), (4, .v (.int .u32 more)), (18, iv (r8.1)), (228, .gr 1), (229, .sl 0)], ⟨[], ((1004, (iQZ x1)) :: ((1003, (iQZ r2.1)) :: (wormtublaw05_StreamPlans_R room l by'))), [(1, ⟨3, 1, ([] : List Int).length, ([] : List Int).flatMap (fun x => [.int .i64 x])⟩)]⟩⟩) E a w := ⟨_, St.pickG S [1, 3, 4, 18, 228, 229] [] [1] (⟨[(1, .sl 1), (3, .v (.int .u8 hour)), (4, .v (.int .u32 more)), (18, iv (r8.1)), (228, .gr 1), (229, .sl 0)], ⟨[], ((1004, (iQZ x1)) :: ((1003, (iQZ r2.1)) :: (wormtublaw05_StreamPlans_R room l by'))), [(1, ⟨3, 1, ([] : List Int).length, ([] : List Int).flatMap (fun x => [.int .i64 x])⟩)]⟩⟩) (by kernel_rfl)⟩
                  refine sym_appendS lay_ok rfl (.tmp 228) (.tmp 229) 33 rfl rfl S 1 0 ⟨3, 1, ([] : List Int).length, ([] : List Int).flatMap (fun x => [.int .i64 x])⟩ (iQZ room) ⟨.int .i64, 1, [.int .i64 0], false, 8⟩ ⟨.sli 3 1, 1, [.slice none 0 0], false, 24⟩ (room.flatMap (fun x => [.int .i64 x])) rfl rfl rfl rfl rfl rfl rfl rfl rfl (show 0 < 1 by decide) (flat_len (fun x => [.int .i64 x]) 1 (fun _ => rfl) room) (fun j v hv => flat_find (fun x => [.int .i64 x]) 1 (fun _ => rfl) room j v hv) (fun v hv => by obtain ⟨x, _, hx⟩ := List.mem_flatMap.1 hv; simp only [List.mem_cons, List.not_mem_nil, or_false] at hx; subst hx; rfl) (fun e he => by cases he; exact Nat.lt_of_succ_le (Nat.le_of_ble_eq_true rfl)) ⟨3, 1, (([] : List Int) ++ room).length, (([] : List Int) ++ room).flatMap (fun x => [.int .i64 x])⟩ rfl rfl (by first | (simp; done) | (simp; omega)) (by simp) (Nat.le_trans g21 (by decide)) (show (([] : List Int).length + room.length) * 8 ≤ 140737488355328 by have := g21; omega) ?_
                  clear S; intro v0 E a w S; have S := St.pickG S [1, 3, 4, 18, 229, 230] [] [1] (⟨[(1, .sl 1), (3, .v (.int .u8 hour)), (4, .v (.int .u32 more)), (18, iv (r8.1)), (229, .sl 0), (230, .gr 1)], ⟨[], ((1004, (iQZ x1)) :: ((1003, (iQZ r2.1)) :: (wormtublaw05_StreamPlans_R room l by'))), [(1, ⟨3, 1, (([] : List Int) ++ room).length, (([] : List Int) ++ room).flatMap (fun x => [.int .i64 x])⟩)]⟩⟩) (by kernel_rfl)
                  refine sym_runP lay_ok [] 3 1 [1, 3, 4, 18, 21] [] (⟨[(1, .sl 1), (3, .v (.int .u8 hour)), (4, .v (.int .u32 more)), (18, iv (r8.1)), (21, .gr 1)], ⟨[], ((1004, (iQZ x1)) :: ((1003, (iQZ r2.1)) :: (wormtublaw05_StreamPlans_R room l by'))), [(1, ⟨3, 1, (([] : List Int) ++ room).length, (([] : List Int) ++ room).flatMap (fun x => [.int .i64 x])⟩)]⟩⟩) [] S (by kernel_rfl) (by kernel_rfl) trivial ?_
                  clear S; intro E a w S
                  refine sym_done rfl ?_
                  refine out_then_normal ?_
                  have S := St.pickG S [1, 3, 4, 18, 21] [] [1] (⟨[(1, .sl 1), (3, .v (.int .u8 hour)), (4, .v (.int .u32 more)), (18, iv (r8.1)), (21, .gr 1)], ⟨[], ((1004, (iQZ x1)) :: ((1003, (iQZ r2.1)) :: (wormtublaw05_StreamPlans_R room l by'))), [(1, ⟨3, 1, (([] : List Int) ++ room).length, (([] : List Int) ++ room).flatMap (fun x => [.int .i64 x])⟩)]⟩⟩) (by kernel_rfl)
                  obtain ⟨⟨g22, g23⟩, h⟩ := grd_some h
                  refine sym_seq lay_ok mixed [] [1, 4, 18, 21, 22] [] (⟨[(1, .sl 1), (4, .v (.int .u32 more)), (18, iv (r8.1)), (21, .gr 1), (22, iv ((hour.tmod (((([] : List Int) ++ room).length : Nat) : Int))))], ⟨[], ((1004, (iQZ x1)) :: ((1003, (iQZ r2.1)) :: (wormtublaw05_StreamPlans_R room l by'))), [(1, ⟨3, 1, (([] : List Int) ++ room).length, (([] : List Int) ++ room).flatMap (fun x => [.int .i64 x])⟩)]⟩⟩) [.rng .i64 hour, .nz (((([] : List Int) ++ room).length : Nat) : Int)] S (by kernel_rfl) (by kernel_rfl) (by kernel_rfl) ⟨rngI64 g22, g23, trivial⟩ ?_
                  clear S; intro E a w S
                  obtain ⟨⟨g24, g25, g26, g27⟩, h⟩ := grd_some h
                  refine sym_open ?_
                  refine sym_runP lay_ok [] 0 4 [1, 4, 18, 21, 236, 237, 238, 239] [] (⟨[(1, .sl 1), (4, .v (.int .u32 more)), (18, iv (r8.1)), (21, .gr 1), (236, .gr 1), (237, iv ((hour.tmod (((([] : List Int) ++ room).length : Nat) : Int)))), (238, .gr 1), (239, iv ((hour.tmod (((([] : List Int) ++ room).length : Nat) : Int))))], ⟨[], ((1004, (iQZ x1)) :: ((1003, (iQZ r2.1)) :: (wormtublaw05_StreamPlans_R room l by'))), [(1, ⟨3, 1, (([] : List Int) ++ room).length, (([] : List Int) ++ room).flatMap (fun x => [.int .i64 x])⟩)]⟩⟩) [] S (by kernel_rfl) (by kernel_rfl) trivial ?_
                  clear S; intro E a w S
                  refine sym_loadG1 lay_ok rfl 33 (.tmp 238) (.tmp 239) 240 241 S 1 ⟨3, 1, (([] : List Int) ++ room).length, (([] : List Int) ++ room).flatMap (fun x => [.int .i64 x])⟩ rfl rfl rfl rfl rfl rfl .i64 (hour.tmod (((([] : List Int) ++ room).length : Nat) : Int)) ((([] : List Int) ++ room).getD (Int.toNat (hour.tmod (((([] : List Int) ++ room).length : Nat) : Int))) default) ⟨.int .i64, 1, [.int .i64 0], false, 8⟩ ⟨.sli 3 1, 1, [.slice none 0 0], false, 24⟩ rfl rfl rfl rfl rfl rfl rfl rfl rfl (get_flat (([] : List Int) ++ room) (Int.toNat (hour.tmod (((([] : List Int) ++ room).length : Nat) : Int))) (by have := g24; omega)) g24 (Nat.lt_of_succ_le (Nat.le_of_ble_eq_true rfl)) (Nat.lt_of_succ_le (Nat.le_of_ble_eq_true rfl)) ?_
                  clear S; intro u a S; have S := St.pickG S [1, 4, 18, 21, 236, 237, 241] [] [1] (⟨[(1, .sl 1), (4, .v (.int .u32 more)), (18, iv (r8.1)), (21, .gr 1), (236, .gr 1), (237, iv ((hour.tmod (((([] : List Int) ++ room).length : Nat) : Int)))), (241, iv (((([] : List Int) ++ room).getD (Int.toNat (hour.tmod (((([] : List Int) ++ room).length : Nat) : Int))) default)))], ⟨[], ((1004, (iQZ x1)) :: ((1003, (iQZ r2.1)) :: (wormtublaw05_StreamPlans_R room l by'))), [(1, ⟨3, 1, (([] : List Int) ++ room).length, (([] : List Int) ++ room).flatMap (fun x => [.int .i64 x])⟩)]⟩⟩) (by kernel_rfl)
                  refine sym_runP lay_ok [] 6 4 [1, 18, 21, 236, 237, 245] [] (⟨[(1, .sl 1), (18, iv (r8.1)), (21, .gr 1), (236, .gr 1), (237, iv ((hour.tmod (((([] : List Int) ++ room).length : Nat) : Int)))), (245, iv ((min 8796093022208 (((([] : List Int) ++ room).getD (Int.toNat (hour.tmod (((([] : List Int) ++ room).length : Nat) : Int))) default) + more))))], ⟨[], ((1004, (iQZ x1)) :: ((1003, (iQZ r2.1)) :: (wormtublaw05_StreamPlans_R room l by'))), [(1, ⟨3, 1, (([] : List Int) ++ room).length, (([] : List Int) ++ room).flatMap (fun x => [.int .i64 x])⟩)]⟩⟩) [.rng .i64 more, .rng .i64 (((([] : List Int) ++ room).getD (Int.toNat (hour.tmod (((([] : List Int) ++ room).length : Nat) : Int))) default) + more)] S (by kernel_rfl) (by kernel_rfl) ⟨rngI64 g25, rngI64 g26, trivial⟩ ?_
                  clear S; intro E a w S
                  refine sym_storeG1 lay_ok rfl 33 (.tmp 236) (.tmp 237) (.tmp 245) 246 S 1 ⟨3, 1, (([] : List Int) ++ room).length, (([] : List Int) ++ room).flatMap (fun x => [.int .i64 x])⟩ rfl rfl rfl rfl rfl rfl .i64 (hour.tmod (((([] : List Int) ++ room).length : Nat) : Int)) .i64 (min 8796093022208 (((([] : List Int) ++ room).getD (Int.toNat (hour.tmod (((([] : List Int) ++ room).length : Nat) : Int))) default) + more)) ⟨.int .i64, 1, [.int .i64 0], false, 8⟩ ⟨.sli 3 1, 1, [.slice none 0 0], false, 24⟩ rfl rfl rfl rfl rfl rfl rfl rfl rfl g27 (Nat.lt_of_succ_le (Nat.le_of_ble_eq_true rfl)) ⟨3, 1, ((([] : List Int) ++ room).set (Int.toNat (hour.tmod (((([] : List Int) ++ room).length : Nat) : Int))) (min 8796093022208 (((([] : List Int) ++ room).getD (Int.toNat (hour.tmod (((([] : List Int) ++ room).length : Nat) : Int))) default) + more))).length, ((([] : List Int) ++ room).set (Int.toNat (hour.tmod (((([] : List Int) ++ room).length : Nat) : Int))) (min 8796093022208 (((([] : List Int) ++ room).getD (Int.toNat (hour.tmod (((([] : List Int) ++ room).length : Nat) : Int))) default) + more))).flatMap (fun x => [.int .i64 x])⟩ (set_flat (([] : List Int) ++ room) (Int.toNat (hour.tmod (((([] : List Int) ++ room).length : Nat) : Int))) (min 8796093022208 (((([] : List Int) ++ room).getD (Int.toNat (hour.tmod (((([] : List Int) ++ room).length : Nat) : Int))) default) + more)) (by have := g27; omega) 3) ?_
                  clear S; intro u v0 E a w hv0 S; have S := S.reslot (t := 21) (sv' := .gr 1) rfl (by simpa [SV.val, SV.subG] using hv0); clear hv0; have S := St.pickG S [1, 18, 21] [] [1] (⟨[(1, .sl 1), (18, iv (r8.1)), (21, .gr 1)], ⟨[], ((1004, (iQZ x1)) :: ((1003, (iQZ r2.1)) :: (wormtublaw05_StreamPlans_R room l by'))), [(1, ⟨3, 1, ((([] : List Int) ++ room).set (Int.toNat (hour.tmod (((([] : List Int) ++ room).length : Nat) : Int))) (min 8796093022208 (((([] : List Int) ++ room).getD (Int.toNat (hour.tmod (((([] : List Int) ++ room).length : Nat) : Int))) default) + more))).length, ((([] : List Int) ++ room).set (Int.toNat (hour.tmod (((([] : List Int) ++ room).length : Nat) : Int))) (min 8796093022208 (((([] : List Int) ++ room).getD (Int.toNat (hour.tmod (((([] : List Int) ++ room).length : Nat) : Int))) default) + more))).flatMap (fun x => [.int .i64 x])⟩)]⟩⟩) (by kernel_rfl)
                  refine sym_done rfl ?_
                  refine out_then_normal ?_
                  have S := St.pickG S [1, 18, 21] [] [1] (⟨[(1, .sl 1), (18, iv (r8.1)), (21, .gr 1)], ⟨[], ((1004, (iQZ x1)) :: ((1003, (iQZ r2.1)) :: (wormtublaw05_StreamPlans_R room l by'))), [(1, ⟨3, 1, ((([] : List Int) ++ room).set (Int.toNat (hour.tmod (((([] : List Int) ++ room).length : Nat) : Int))) (min 8796093022208 (((([] : List Int) ++ room).getD (Int.toNat (hour.tmod (((([] : List Int) ++ room).length : Nat) : Int))) default) + more))).length, ((([] : List Int) ++ room).set (Int.toNat (hour.tmod (((([] : List Int) ++ room).length : Nat) : Int))) (min 8796093022208 (((([] : List Int) ++ room).getD (Int.toNat (hour.tmod (((([] : List Int) ++ room).length : Nat) : Int))) default) + more))).flatMap (fun x => [.int .i64 x])⟩)]⟩⟩) (by kernel_rfl)
                  obtain ⟨r10, e13, h⟩ := bind_some h
                  refine sym_seq lay_ok mixed [(2, { g := 4, res := .tup [.ltr 4 0, iv (r10.2)], hx := some (SlicesAre 0 [(iQZ r10.1)]) })] [1, 18, 21, 23, 24] [4] (⟨[(1, .sl 1), (18, iv (r8.1)), (21, .gr 1), (23, .ltr 4 0), (24, iv (r10.2))], ⟨[(4, .held (SlicesAre 0 [(iQZ r10.1)]))], ((1004, (iQZ x1)) :: ((1003, (iQZ r2.1)) :: (wormtublaw05_StreamPlans_R room l by'))), [(1, ⟨3, 1, ((([] : List Int) ++ room).set (Int.toNat (hour.tmod (((([] : List Int) ++ room).length : Nat) : Int))) (min 8796093022208 (((([] : List Int) ++ room).getD (Int.toNat (hour.tmod (((([] : List Int) ++ room).length : Nat) : Int))) default) + more))).length, ((([] : List Int) ++ room).set (Int.toNat (hour.tmod (((([] : List Int) ++ room).length : Nat) : Int))) (min 8796093022208 (((([] : List Int) ++ room).getD (Int.toNat (hour.tmod (((([] : List Int) ++ room).length : Nat) : Int))) default) + more))).flatMap (fun x => [.int .i64 x])⟩)]⟩⟩) [.callx ⟨[], ((1004, (iQZ x1)) :: ((1003, (iQZ r2.1)) :: (wormtublaw05_StreamPlans_R room l by'))), [(1, ⟨3, 1, ((([] : List Int) ++ room).set (Int.toNat (hour.tmod (((([] : List Int) ++ room).length : Nat) : Int))) (min 8796093022208 (((([] : List Int) ++ room).getD (Int.toNat (hour.tmod (((([] : List Int) ++ room).length : Nat) : Int))) default) + more))).length, ((([] : List Int) ++ room).set (Int.toNat (hour.tmod (((([] : List Int) ++ room).length : Nat) : Int))) (min 8796093022208 (((([] : List Int) ++ room).getD (Int.toNat (hour.tmod (((([] : List Int) ++ room).length : Nat) : Int))) default) + more))).flatMap (fun x => [.int .i64 x])⟩)]⟩ 4 21 [.gr 1, .sl 1] (.tup [.ltr 4 0, iv (r10.2)]) (SlicesAre 0 [(iQZ r10.1)])] S (by kernel_rfl) (by kernel_rfl) (by kernel_rfl) ⟨⟨enters_21, fun E W _ hm => by obtain ⟨A0, c0, q0, l0, s0⟩ := Mem.grSl hm (k := 1) rfl; obtain ⟨A1, c1, q1, l1, s1, _⟩ := Mem.sl hm (s := 1) rfl; simp only [SV.vals, SV.val, q0, q1]; exact ((stream_Runs_ok fuel ((([] : List Int) ++ room).set (Int.toNat (hour.tmod (((([] : List Int) ++ room).length : Nat) : Int))) (min 8796093022208 (((([] : List Int) ++ room).getD (Int.toNat (hour.tmod (((([] : List Int) ++ room).length : Nat) : Int))) default) + more))) l W A0 c0 l0 (s0 _ (flat_get (fun x => [.int .i64 x]) 1 (fun _ => rfl) ((([] : List Int) ++ room).set (Int.toNat (hour.tmod (((([] : List Int) ++ room).length : Nat) : Int))) (min 8796093022208 (((([] : List Int) ++ room).getD (Int.toNat (hour.tmod (((([] : List Int) ++ room).length : Nat) : Int))) default) + more))))) A1 c1 l1 s1 r10 e13).mono fun e w' hx => by obtain ⟨v, h1, h2, h3, h4⟩ := hx; exact ⟨v, h1, h2, h3, h4.mono fun _ _ h => .inl h⟩)⟩, trivial⟩ ?_
                  clear S; intro E a w S
                  obtain ⟨E, S⟩ := St.read 4 0 1005 (iQZ r10.1) (⟨[(1, .sl 1), (18, iv (r8.1)), (21, .gr 1), (23, .sl 1005), (24, iv (r10.2))], ⟨[(4, .held (SlicesAre 0 [(iQZ r10.1)]))], ((1005, (iQZ r10.1)) :: ((1004, (iQZ x1)) :: ((1003, (iQZ r2.1)) :: (wormtublaw05_StreamPlans_R room l by')))), [(1, ⟨3, 1, ((([] : List Int) ++ room).set (Int.toNat (hour.tmod (((([] : List Int) ++ room).length : Nat) : Int))) (min 8796093022208 (((([] : List Int) ++ room).getD (Int.toNat (hour.tmod (((([] : List Int) ++ room).length : Nat) : Int))) default) + more))).length, ((([] : List Int) ++ room).set (Int.toNat (hour.tmod (((([] : List Int) ++ room).length : Nat) : Int))) (min 8796093022208 (((([] : List Int) ++ room).getD (Int.toNat (hour.tmod (((([] : List Int) ++ room).length : Nat) : Int))) default) + more))).flatMap (fun x => [.int .i64 x])⟩)]⟩⟩) rfl (fun v w h => h.1) (by intro _ h; cases h) (by kernel_rfl) (by kernel_rfl) S
                  refine wp_seq ?_
                  refine sym_seq lay_ok mixed [(3, { og := true }), (4, { og := true }), (5, { og := true }), (6, { og := true }), (7, { og := true }), (8, { pk := true })] [1, 18, 21, 23, 261] [] (⟨[(1, .sl 1), (18, iv (r8.1)), (21, .gr 1), (23, .sl 1005), (261, .v (.bool ((r10.2 != 0) || (((r10.1.length : Nat) : Int) != ((l.length : Nat) : Int)))))], ⟨[], ((1005, (iQZ r10.1)) :: ((1004, (iQZ x1)) :: ((1003, (iQZ r2.1)) :: (wormtublaw05_StreamPlans_R room l by')))), [(1, ⟨3, 1, ((([] : List Int) ++ room).set (Int.toNat (hour.tmod (((([] : List Int) ++ room).length : Nat) : Int))) (min 8796093022208 (((([] : List Int) ++ room).getD (Int.toNat (hour.tmod (((([] : List Int) ++ room).length : Nat) : Int))) default) + more))).length, ((([] : List Int) ++ room).set (Int.toNat (hour.tmod (((([] : List Int) ++ room).length : Nat) : Int))) (min 8796093022208 (((([] : List Int) ++ room).getD (Int.toNat (hour.tmod (((([] : List Int) ++ room).length : Nat) : Int))) default) + more))).flatMap (fun x => [.int .i64 x])⟩)]⟩⟩) [.imp (!(r10.2 != 0)) (!(r10.2 != 0)), .imp (!(r10.2 != 0)) (!(r10.2 != 0)), .imp (!(r10.2 != 0)) (!(r10.2 != 0)), .imp (!(r10.2 != 0)) (!(r10.2 != 0)), .imp (!(r10.2 != 0)) (!(r10.2 != 0))] S (by kernel_rfl) (by kernel_rfl) (by kernel_rfl) ⟨fun h => h, fun h => h, fun h => h, fun h => h, fun h => h, trivial⟩ ?_
                  clear S; intro E a w S
                  refine sym_if_last (b := ((r10.2 != 0) || (((r10.1.length : Nat) : Int) != ((l.length : Nat) : Int)))) S rfl (fun hb15 => ?_) (fun hb15 => ?_)
                  · have h := bif_t hb15 h
                    refine sym_seq lay_ok mixed [] [10] [] (⟨[(10, .v (.bool false))], ⟨[], ((1005, (iQZ r10.1)) :: ((1004, (iQZ x1)) :: ((1003, (iQZ r2.1)) :: (wormtublaw05_StreamPlans_R room l by')))), [(1, ⟨3, 1, ((([] : List Int) ++ room).set (Int.toNat (hour.tmod (((([] : List Int) ++ room).length : Nat) : Int))) (min 8796093022208 (((([] : List Int) ++ room).getD (Int.toNat (hour.tmod (((([] : List Int) ++ room).length : Nat) : Int))) default) + more))).length, ((([] : List Int) ++ room).set (Int.toNat (hour.tmod (((([] : List Int) ++ room).length : Nat) : Int))) (min 8796093022208 (((([] : List Int) ++ room).getD (Int.toNat (hour.tmod (((([] : List Int) ++ room).length : Nat) : Int))) default) + more))).flatMap (fun x => [.int .i64 x])⟩)]⟩⟩) [] S (by kernel_rfl) (by kernel_rfl) (by kernel_rfl) trivial ?_
                    clear S; intro E a w S
                    refine wp_ret ?_
                    refine out_then_ret ?_
                    have h := Option.some.inj h
                    subst h
                    exact sym_ret lay_ok [.v (.bool false)] (by kernel_rfl) rfl S ⟨rfl, S.below rfl⟩
                  · have h := bif_f hb15 h
                    refine wp_skip ?_
                    refine out_then_normal ?_
                    obtain ⟨r11, e14, h⟩ := bind_some h
                    refine sym_seq lay_ok mixed [(3, { res := .tup [iv (r11.1), .v (.bool r11.2)] })] [18, 25] [] (⟨[(18, iv (r8.1)), (25, iv (r11.1))], ⟨[], ((1005, (iQZ r10.1)) :: ((1004, (iQZ x1)) :: ((1003, (iQZ r2.1)) :: (wormtublaw05_StreamPlans_R room l by')))), [(1, ⟨3, 1, ((([] : List Int) ++ room).set (Int.toNat (hour.tmod (((([] : List Int) ++ room).length : Nat) : Int))) (min 8796093022208 (((([] : List Int) ++ room).getD (Int.toNat (hour.tmod (((([] : List Int) ++ room).length : Nat) : Int))) default) + more))).length, ((([] : List Int) ++ room).set (Int.toNat (hour.tmod (((([] : List Int) ++ room).length : Nat) : Int))) (min 8796093022208 (((([] : List Int) ++ room).getD (Int.toNat (hour.tmod (((([] : List Int) ++ room).length : Nat) : Int))) default) + more))).flatMap (fun x => [.int .i64 x])⟩)]⟩⟩) [.call ⟨[], ((1005, (iQZ r10.1)) :: ((1004, (iQZ x1)) :: ((1003, (iQZ r2.1)) :: (wormtublaw05_StreamPlans_R room l by')))), [(1, ⟨3, 1, ((([] : List Int) ++ room).set (Int.toNat (hour.tmod (((([] : List Int) ++ room).length : Nat) : Int))) (min 8796093022208 (((([] : List Int) ++ room).getD (Int.toNat (hour.tmod (((([] : List Int) ++ room).length : Nat) : Int))) default) + more))).length, ((([] : List Int) ++ room).set (Int.toNat (hour.tmod (((([] : List Int) ++ room).length : Nat) : Int))) (min 8796093022208 (((([] : List Int) ++ room).getD (Int.toNat (hour.tmod (((([] : List Int) ++ room).length : Nat) : Int))) default) + more))).flatMap (fun x => [.int .i64 x])⟩)]⟩ 32 [.gr 1, .sl 1, .sl 1005] (.tup [iv (r11.1), .v (.bool r11.2)])] S (by kernel_rfl) (by kernel_rfl) (by kernel_rfl) ⟨⟨enters_32, fun E W _ hm => by obtain ⟨A0, c0, q0, l0, s0⟩ := Mem.grSl hm (k := 1) rfl; obtain ⟨A1, c1, q1, l1, s1, _⟩ := Mem.sl hm (s := 1) rfl; obtain ⟨A2, c2, q2, l2, s2, _⟩ := Mem.sl hm (s := 1005) rfl; simp only [SV.vals, SV.val, q0, q1, q2]; exact wormtubref05_Plan_ok fuel ((([] : List Int) ++ room).set (Int.toNat (hour.tmod (((([] : List Int) ++ room).length : Nat) : Int))) (min 8796093022208 (((([] : List Int) ++ room).getD (Int.toNat (hour.tmod (((([] : List Int) ++ room).length : Nat) : Int))) default) + more))) l r10.1 W A0 c0 l0 (s0 _ (flat_get (fun x => [.int .i64 x]) 1 (fun _ => rfl) ((([] : List Int) ++ room).set (Int.toNat (hour.tmod (((([] : List Int) ++ room).length : Nat) : Int))) (min 8796093022208 (((([] : List Int) ++ room).getD (Int.toNat (hour.tmod (((([] : List Int) ++ room).length : Nat) : Int))) default) + more))))) A1 c1 l1 s1 A2 c2 l2 s2 r11 e14⟩, trivial⟩ ?_
                    clear S; intro E a w S
                    obtain ⟨r12, e15, h⟩ := bind_some h
                    refine sym_seq lay_ok mixed [(4, { og := true, res := .v (.bool r12) }), (5, { pk := true })] [10] [] (⟨[(10, .v (.bool (decide (r11.1 ≤ r8.1) && r12)))], ⟨[], ((1005, (iQZ r10.1)) :: ((1004, (iQZ x1)) :: ((1003, (iQZ r2.1)) :: (wormtublaw05_StreamPlans_R room l by')))), [(1, ⟨3, 1, ((([] : List Int) ++ room).set (Int.toNat (hour.tmod (((([] : List Int) ++ room).length : Nat) : Int))) (min 8796093022208 (((([] : List Int) ++ room).getD (Int.toNat (hour.tmod (((([] : List Int) ++ room).length : Nat) : Int))) default) + more))).length, ((([] : List Int) ++ room).set (Int.toNat (hour.tmod (((([] : List Int) ++ room).length : Nat) : Int))) (min 8796093022208 (((([] : List Int) ++ room).getD (Int.toNat (hour.tmod (((([] : List Int) ++ room).length : Nat) : Int))) default) + more))).flatMap (fun x => [.int .i64 x])⟩)]⟩⟩) [.when (decide (r11.1 ≤ r8.1)) (.call ⟨[], ((1005, (iQZ r10.1)) :: ((1004, (iQZ x1)) :: ((1003, (iQZ r2.1)) :: (wormtublaw05_StreamPlans_R room l by')))), [(1, ⟨3, 1, ((([] : List Int) ++ room).set (Int.toNat (hour.tmod (((([] : List Int) ++ room).length : Nat) : Int))) (min 8796093022208 (((([] : List Int) ++ room).getD (Int.toNat (hour.tmod (((([] : List Int) ++ room).length : Nat) : Int))) default) + more))).length, ((([] : List Int) ++ room).set (Int.toNat (hour.tmod (((([] : List Int) ++ room).length : Nat) : Int))) (min 8796093022208 (((([] : List Int) ++ room).getD (Int.toNat (hour.tmod (((([] : List Int) ++ room).length : Nat) : Int))) default) + more))).flatMap (fun x => [.int .i64 x])⟩)]⟩ 12 [] (.v (.bool r12))), .imp (decide (r11.1 ≤ r8.1)) (decide (r11.1 ≤ r8.1))] S (by kernel_rfl) (by kernel_rfl) (by kernel_rfl) ⟨fun hW => ⟨enters_12, fun _ W _ hm => wormtublaw05_awake_ok  W r12 (bif_t hW e15)⟩, fun h => h, trivial⟩ ?_
                    clear S; intro E a w S
                    refine wp_ret ?_
                    have h := Option.some.inj h
                    subst h
                    exact sym_ret lay_ok [.v (.bool (decide (r11.1 ≤ r8.1) && r12))] (by kernel_rfl) rfl S ⟨rfl, S.below rfl⟩
              · have h := bif_f hb10 h
                refine wp_skip ?_
                refine out_then_normal ?_
                refine wp_seq ?_
                refine sym_seq lay_ok mixed [] [0, 1, 3, 4, 18, 226] [] (⟨[(0, .sl 0), (1, .sl 1), (3, .v (.int .u8 hour)), (4, .v (.int .u32 more)), (18, iv (r8.1)), (226, .v (.bool (((room.length : Nat) : Int) == 0)))], ⟨[], ((1004, (iQZ x1)) :: ((1003, (iQZ r2.1)) :: (wormtublaw05_StreamPlans_R room l by'))), []⟩⟩) [] S (by kernel_rfl) (by kernel_rfl) (by kernel_rfl) trivial ?_
                clear S; intro E a w S
                refine sym_if_last (b := (((room.length : Nat) : Int) == 0)) S rfl (fun hb16 => ?_) (fun hb16 => ?_)
                · have h := bif_t hb16 h
                  obtain ⟨r13, e16, h⟩ := bind_some h
                  refine sym_seq lay_ok mixed [(0, { res := .v (.bool r13) })] [10] [] (⟨[(10, .v (.bool r13))], ⟨[], ((1004, (iQZ x1)) :: ((1003, (iQZ r2.1)) :: (wormtublaw05_StreamPlans_R room l by'))), []⟩⟩) [.call ⟨[], ((1004, (iQZ x1)) :: ((1003, (iQZ r2.1)) :: (wormtublaw05_StreamPlans_R room l by'))), []⟩ 12 [] (.v (.bool r13))] S (by kernel_rfl) (by kernel_rfl) (by kernel_rfl) ⟨⟨enters_12, fun _ W _ hm => wormtublaw05_awake_ok  W r13 e16⟩, trivial⟩ ?_
                  clear S; intro E a w S
                  refine wp_ret ?_
                  refine out_then_ret ?_
                  have h := Option.some.inj h
                  subst h
                  exact sym_ret lay_ok [.v (.bool r13)] (by kernel_rfl) rfl S ⟨rfl, S.below rfl⟩
                · have h := bif_f hb16 h
                  refine wp_skip ?_
                  refine out_then_normal ?_
                  obtain ⟨g28, h⟩ := grd_some h
                  refine sym_open ?_
                  refine sym_runP lay_ok [(0, { g := 5 })] 0 2 [1, 3, 4, 18, 228, 229] [5] (⟨[(1, .sl 1), (3, .v (.int .u8 hour)), (4, .v (.int .u32 more)), (18, iv (r8.1)), (228, .row 5 0 0 0), (229, .sl 0)], ⟨[(5, .blk 3 [])], ((1004, (iQZ x1)) :: ((1003, (iQZ r2.1)) :: (wormtublaw05_StreamPlans_R room l by'))), []⟩⟩) [] S (by kernel_rfl) (by kernel_rfl) trivial ?_
                  clear S; intro E a w S
                  have S := S.rowgr 5 2 rfl ⟨3, 1, ([] : List Int).length, ([] : List Int).flatMap (fun x => [.int .i64 x])⟩ (.slice (some ⟨E.ρ 5, 0, none⟩) 0 0) rfl (S.litgr rfl 1 0 _ rfl (by decide) (by simp [SV.vals, SV.val])) rfl [1, 3, 4, 18, 228, 229] [] (by kernel_rfl)
                  have S := S.reslot (t := 228) (sv' := .gr 2) rfl (by simp [SV.val, SV.subG, Env.updG])
                  obtain ⟨E, S⟩ : ∃ E, St ⟨W, noC, Go.Proofs.Try.f10.ntmps, [], allR, noρ, (envOf [(0, ⟨A0, room.length, c0, 1⟩), (1, ⟨A1, l.length, c1, 4⟩), (2, ⟨A2, by'.length, c2, 1⟩)]).sl, (envOf [(0, ⟨A0, room.length, c0, 1⟩), (1, ⟨A1, l.length, c1, 4⟩), (2, ⟨A2, by'.length, c2, 1⟩)]).x⟩ (⟨[(1, .sl 1), (3, .v (.int .u8 hour)), (4, .v (.int .u32 more)), (18, iv (r8.1)), (228, .gr 2), (229, .sl 0)], ⟨[], ((1004, (iQZ x1)) :: ((1003, (iQZ r2.1)) :: (wormtublaw05_StreamPlans_R room l by'))), [(2, ⟨3, 1, ([] : List Int).length, ([] : List Int).flatMap (fun x => [.int .i64 x])⟩)]⟩⟩) E a w := ⟨_, St.pickG S [1, 3, 4, 18, 228, 229] [] [2] (⟨[(1, .sl 1), (3, .v (.int .u8 hour)), (4, .v (.int .u32 more)), (18, iv (r8.1)), (228, .gr 2), (229, .sl 0)], ⟨[], ((1004, (iQZ x1)) :: ((1003, (iQZ r2.1)) :: (wormtublaw05_StreamPlans_R room l by'))), [(2, ⟨3, 1, ([] : List Int).length, ([] : List Int).flatMap (fun x => [.int .i64 x])⟩)]⟩⟩) (by kernel_rfl)⟩
                  refine sym_appendS lay_ok rfl (.tmp 228) (.tmp 229) 33 rfl rfl S 2 0 ⟨3, 1, ([] : List Int).length, ([] : List Int).flatMap (fun x => [.int .i64 x])⟩ (iQZ room) ⟨.int .i64, 1, [.int .i64 0], false, 8⟩ ⟨.sli 3 1, 1, [.slice none 0 0], false, 24⟩ (room.flatMap (fun x => [.int .i64 x])) rfl rfl rfl rfl rfl rfl rfl rfl rfl (show 0 < 1 by decide) (flat_len (fun x => [.int .i64 x]) 1 (fun _ => rfl) room) (fun j v hv => flat_find (fun x => [.int .i64 x]) 1 (fun _ => rfl) room j v hv) (fun v hv => by obtain ⟨x, _, hx⟩ := List.mem_flatMap.1 hv; simp only [List.mem_cons, List.not_mem_nil, or_false] at hx; subst hx; rfl) (fun e he => by cases he; exact Nat.lt_of_succ_le (Nat.le_of_ble_eq_true rfl)) ⟨3, 1, (([] : List Int) ++ room).length, (([] : List Int) ++ room).flatMap (fun x => [.int .i64 x])⟩ rfl rfl (by first | (simp; done) | (simp; omega)) (by simp) (Nat.le_trans g28 (by decide)) (show (([] : List Int).length + room.length) * 8 ≤ 140737488355328 by have := g28; omega) ?_
                  clear S; intro v0 E a w S; have S := St.pickG S [1, 3, 4, 18, 229, 230] [] [2] (⟨[(1, .sl 1), (3, .v (.int .u8 hour)), (4, .v (.int .u32 more)), (18, iv (r8.1)), (229, .sl 0), (230, .gr 2)], ⟨[], ((1004, (iQZ x1)) :: ((1003, (iQZ r2.1)) :: (wormtublaw05_StreamPlans_R room l by'))), [(2, ⟨3, 1, (([] : List Int) ++ room).length, (([] : List Int) ++ room).flatMap (fun x => [.int .i64 x])⟩)]⟩⟩) (by kernel_rfl)
                  refine sym_runP lay_ok [] 3 1 [1, 3, 4, 18, 21] [] (⟨[(1, .sl 1), (3, .v (.int .u8 hour)), (4, .v (.int .u32 more)), (18, iv (r8.1)), (21, .gr 2)], ⟨[], ((1004, (iQZ x1)) :: ((1003, (iQZ r2.1)) :: (wormtublaw05_StreamPlans_R room l by'))), [(2, ⟨3, 1, (([] : List Int) ++ room).length, (([] : List Int) ++ room).flatMap (fun x => [.int .i64 x])⟩)]⟩⟩) [] S (by kernel_rfl) (by kernel_rfl) trivial ?_
                  clear S; intro E a w S
                  refine sym_done rfl ?_
                  refine out_then_normal ?_
                  have S := St.pickG S [1, 3, 4, 18, 21] [] [2] (⟨[(1, .sl 1), (3, .v (.int .u8 hour)), (4, .v (.int .u32 more)), (18, iv (r8.1)), (21, .gr 2)], ⟨[], ((1004, (iQZ x1)) :: ((1003, (iQZ r2.1)) :: (wormtublaw05_StreamPlans_R room l by'))), [(2, ⟨3, 1, (([] : List Int) ++ room).length, (([] : List Int) ++ room).flatMap (fun x => [.int .i64 x])⟩)]⟩⟩) (by kernel_rfl)
                  obtain ⟨⟨g29, g30⟩, h⟩ := grd_some h
                  refine sym_seq lay_ok mixed [] [1, 4, 18, 21, 22] [] (⟨[(1, .sl 1), (4, .v (.int .u32 more)), (18, iv (r8.1)), (21, .gr 2), (22, iv ((hour.tmod (((([] : List Int) ++ room).length : Nat) : Int))))], ⟨[], ((1004, (iQZ x1)) :: ((1003, (iQZ r2.1)) :: (wormtublaw05_StreamPlans_R room l by'))), [(2, ⟨3, 1, (([] : List Int) ++ room).length, (([] : List Int) ++ room).flatMap (fun x => [.int .i64 x])⟩)]⟩⟩) [.rng .i64 hour, .nz (((([] : List Int) ++ room).length : Nat) : Int)] S (by kernel_rfl) (by kernel_rfl) (by kernel_rfl) ⟨rngI64 g29, g30, trivial⟩ ?_
                  clear S; intro E a w S
                  obtain ⟨⟨g31, g32, g33, g34⟩, h⟩ := grd_some h
                  refine sym_open ?_
                  refine sym_runP lay_ok [] 0 4 [1, 4, 18, 21, 236, 237, 238, 239] [] (⟨[(1, .sl 1), (4, .v (.int .u32 more)), (18, iv (r8.1)), (21, .gr 2), (236, .gr 2), (237, iv ((hour.tmod (((([] : List Int) ++ room).length : Nat) : Int)))), (238, .gr 2), (239, iv ((hour.tmod (((([] : List Int) ++ room).length : Nat) : Int))))], ⟨[], ((1004, (iQZ x1)) :: ((1003, (iQZ r2.1)) :: (wormtublaw05_StreamPlans_R room l by'))), [(2, ⟨3, 1, (([] : List Int) ++ room).length, (([] : List Int) ++ room).flatMap (fun x => [.int .i64 x])⟩)]⟩⟩) [] S (by kernel_rfl) (by kernel_rfl) trivial ?_
                  clear S; intro E a w S
                  refine sym_loadG1 lay_ok rfl 33 (.tmp 238) (.tmp 239) 240 241 S 2 ⟨3, 1, (([] : List Int) ++ room).length, (([] : List Int) ++ room).flatMap (fun x => [.int .i64 x])⟩ rfl rfl rfl rfl rfl rfl .i64 (hour.tmod (((([] : List Int) ++ room).length : Nat) : Int)) ((([] : List Int) ++ room).getD (Int.toNat (hour.tmod (((([] : List Int) ++ room).length : Nat) : Int))) default) ⟨.int .i64, 1, [.int .i64 0], false, 8⟩ ⟨.sli 3 1, 1, [.slice none 0 0], false, 24⟩ rfl rfl rfl rfl rfl rfl rfl rfl rfl (get_flat (([] : List Int) ++ room) (Int.toNat (hour.tmod (((([] : List Int) ++ room).length : Nat) : Int))) (by have := g31; omega)) g31 (Nat.lt_of_succ_le (Nat.le_of_ble_eq_true rfl)) (Nat.lt_of_succ_le (Nat.le_of_ble_eq_true rfl)) ?_
                  clear S; intro u a S; have S := St.pickG S [1, 4, 18, 21, 236, 237, 241] [] [2] (⟨[(1, .sl 1), (4, .v (.int .u32 more)), (18, iv (r8.1)), (21, .gr 2), (236, .gr 2), (237, iv ((hour.tmod (((([] : List Int) ++ room).length : Nat) : Int)))), (241, iv (((([] : List Int) ++ room).getD (Int.toNat (hour.tmod (((([] : List Int) ++ room).length : Nat) : Int))) default)))], ⟨[], ((1004, (iQZ x1)) :: ((1003, (iQZ r2.1)) :: (wormtublaw05_StreamPlans_R room l by'))), [(2, ⟨3, 1, (([] : List Int) ++ room).length, (([] : List Int) ++ room).flatMap (fun x => [.int .i64 x])⟩)]⟩⟩) (by kernel_rfl)
                  refine sym_runP lay_ok [] 6 4 [1, 18, 21, 236, 237, 245] [] (⟨[(1, .sl 1), (18, iv (r8.1)), (21, .gr 2), (236, .gr 2), (237, iv ((hour.tmod (((([] : List Int) ++ room).length : Nat) : Int)))), (245, iv ((min 8796093022208 (((([] : List Int) ++ room).getD (Int.toNat (hour.tmod (((([] : List Int) ++ room).length : Nat) : Int))) default) + more))))], ⟨[], ((1004, (iQZ x1)) :: ((1003, (iQZ r2.1)) :: (wormtublaw05_StreamPlans_R room l by'))), [(2, ⟨3, 1, (([] : List Int) ++ room).length, (([] : List Int) ++ room).flatMap (fun x => [.int .i64 x])⟩)]⟩⟩) [.rng .i64 more, .rng .i64 (((([] : List Int) ++ room).getD (Int.toNat (hour.tmod (((([] : List Int) ++ room).length : Nat) : Int))) default) + more)] S (by kernel_rfl) (by kernel_rfl) ⟨rngI64 g32, rngI64 g33, trivial⟩ ?_
                  clear S; intro E a w S
                  refine sym_storeG1 lay_ok rfl 33 (.tmp 236) (.tmp 237) (.tmp 245) 246 S 2 ⟨3, 1, (([] : List Int) ++ room).length, (([] : List Int) ++ room).flatMap (fun x => [.int .i64 x])⟩ rfl rfl rfl rfl rfl rfl .i64 (hour.tmod (((([] : List Int) ++ room).length : Nat) : Int)) .i64 (min 8796093022208 (((([] : List Int) ++ room).getD (Int.toNat (hour.tmod (((([] : List Int) ++ room).length : Nat) : Int))) default) + more)) ⟨.int .i64, 1, [.int .i64 0], false, 8⟩ ⟨.sli 3 1, 1, [.slice none 0 0], false, 24⟩ rfl rfl rfl rfl rfl rfl rfl rfl rfl g34 (Nat.lt_of_succ_le (Nat.le_of_ble_eq_true rfl)) ⟨3, 1, ((([] : List Int) ++ room).set (Int.toNat (hour.tmod (((([] : List Int) ++ room).length : Nat) : Int))) (min 8796093022208 (((([] : List Int) ++ room).getD (Int.toNat (hour.tmod (((([] : List Int) ++ room).length : Nat) : Int))) default) + more))).length, ((([] : List Int) ++ room).set (Int.toNat (hour.tmod (((([] : List Int) ++ room).length : Nat) : Int))) (min 8796093022208 (((([] : List Int) ++ room).getD (Int.toNat (hour.tmod (((([] : List Int) ++ room).length : Nat) : Int))) default) + more))).flatMap (fun x => [.int .i64 x])⟩ (set_flat (([] : List Int) ++ room) (Int.toNat (hour.tmod (((([] : List Int) ++ room).length : Nat) : Int))) (min 8796093022208 (((([] : List Int) ++ room).getD (Int.toNat (hour.tmod (((([] : List Int) ++ room).length : Nat) : Int))) default) + more)) (by have := g34; omega) 3) ?_
                  clear S; intro u v0 E a w hv0 S; have S := S.reslot (t := 21) (sv' := .gr 2) rfl (by simpa [SV.val, SV.subG] using hv0); clear hv0; have S := St.pickG S [1, 18, 21] [] [2] (⟨[(1, .sl 1), (18, iv (r8.1)), (21, .gr 2)], ⟨[], ((1004, (iQZ x1)) :: ((1003, (iQZ r2.1)) :: (wormtublaw05_StreamPlans_R room l by'))), [(2, ⟨3, 1, ((([] : List Int) ++ room).set (Int.toNat (hour.tmod (((([] : List Int) ++ room).length : Nat) : Int))) (min 8796093022208 (((([] : List Int) ++ room).getD (Int.toNat (hour.tmod (((([] : List Int) ++ room).length : Nat) : Int))) default) + more))).length, ((([] : List Int) ++ room).set (Int.toNat (hour.tmod (((([] : List Int) ++ room).length : Nat) : Int))) (min 8796093022208 (((([] : List Int) ++ room).getD (Int.toNat (hour.tmod (((([] : List Int) ++ room).length : Nat) : Int))) default) + more))).flatMap (fun x => [.int .i64 x])⟩)]⟩⟩) (by kernel_rfl)
                  refine sym_done rfl ?_
                  refine out_then_normal ?_
                  have S := St.pickG S [1, 18, 21] [] [2] (⟨[(1, .sl 1), (18, iv (r8.1)), (21, .gr 2)], ⟨[], ((1004, (iQZ x1)) :: ((1003, (iQZ r2.1)) :: (wormtublaw05_StreamPlans_R room l by'))), [(2, ⟨3, 1, ((([] : List Int) ++ room).set (Int.toNat (hour.tmod (((([] : List Int) ++ room).length : Nat) : Int))) (min 8796093022208 (((([] : List Int) ++ room).getD (Int.toNat (hour.tmod (((([] : List Int) ++ room).length : Nat) : Int))) default) + more))).length, ((([] : List Int) ++ room).set (Int.toNat (hour.tmod (((([] : List Int) ++ room).length : Nat) : Int))) (min 8796093022208 (((([] : List Int) ++ room).getD (Int.toNat (hour.tmod (((([] : List Int) ++ room).length : Nat) : Int))) default) + more))).flatMap (fun x => [.int .i64 x])⟩)]⟩⟩) (by kernel_rfl)
                  obtain ⟨r14, e17, h⟩ := bind_some h
                  refine sym_seq lay_ok mixed [(2, { g := 6, res := .tup [.ltr 6 0, iv (r14.2)], hx := some (SlicesAre 0 [(iQZ r14.1)]) })] [1, 18, 21, 23, 24] [6] (⟨[(1, .sl 1), (18, iv (r8.1)), (21, .gr 2), (23, .ltr 6 0), (24, iv (r14.2))], ⟨[(6, .held (SlicesAre 0 [(iQZ r14.1)]))], ((1004, (iQZ x1)) :: ((1003, (iQZ r2.1)) :: (wormtublaw05_StreamPlans_R room l by'))), [(2, ⟨3, 1, ((([] : List Int) ++ room).set (Int.toNat (hour.tmod (((([] : List Int) ++ room).length : Nat) : Int))) (min 8796093022208 (((([] : List Int) ++ room).getD (Int.toNat (hour.tmod (((([] : List Int) ++ room).length : Nat) : Int))) default) + more))).length, ((([] : List Int) ++ room).set (Int.toNat (hour.tmod (((([] : List Int) ++ room).length : Nat) : Int))) (min 8796093022208 (((([] : List Int) ++ room).getD (Int.toNat (hour.tmod (((([] : List Int) ++ room).length : Nat) : Int))) default) + more))).flatMap (fun x => [.int .i64 x])⟩)]⟩⟩) [.callx ⟨[], ((1004, (iQZ x1)) :: ((1003, (iQZ r2.1)) :: (wormtublaw05_StreamPlans_R room l by'))), [(2, ⟨3, 1, ((([] : List Int) ++ room).set (Int.toNat (hour.tmod (((([] : List Int) ++ room).length : Nat) : Int))) (min 8796093022208 (((([] : List Int) ++ room).getD (Int.toNat (hour.tmod (((([] : List Int) ++ room).length : Nat) : Int))) default) + more))).length, ((([] : List Int) ++ room).set (Int.toNat (hour.tmod (((([] : List Int) ++ room).length : Nat) : Int))) (min 8796093022208 (((([] : List Int) ++ room).getD (Int.toNat (hour.tmod (((([] : List Int) ++ room).length : Nat) : Int))) default) + more))).flatMap (fun x => [.int .i64 x])⟩)]⟩ 6 21 [.gr 2, .sl 1] (.tup [.ltr 6 0, iv (r14.2)]) (SlicesAre 0 [(iQZ r14.1)])] S (by kernel_rfl) (by kernel_rfl) (by kernel_rfl) ⟨⟨enters_21, fun E W _ hm => by obtain ⟨A0, c0, q0, l0, s0⟩ := Mem.grSl hm (k := 2) rfl; obtain ⟨A1, c1, q1, l1, s1, _⟩ := Mem.sl hm (s := 1) rfl; simp only [SV.vals, SV.val, q0, q1]; exact ((stream_Runs_ok fuel ((([] : List Int) ++ room).set (Int.toNat (hour.tmod (((([] : List Int) ++ room).length : Nat) : Int))) (min 8796093022208 (((([] : List Int) ++ room).getD (Int.toNat (hour.tmod (((([] : List Int) ++ room).length : Nat) : Int))) default) + more))) l W A0 c0 l0 (s0 _ (flat_get (fun x => [.int .i64 x]) 1 (fun _ => rfl) ((([] : List Int) ++ room).set (Int.toNat (hour.tmod (((([] : List Int) ++ room).length : Nat) : Int))) (min 8796093022208 (((([] : List Int) ++ room).getD (Int.toNat (hour.tmod (((([] : List Int) ++ room).length : Nat) : Int))) default) + more))))) A1 c1 l1 s1 r14 e17).mono fun e w' hx => by obtain ⟨v, h1, h2, h3, h4⟩ := hx; exact ⟨v, h1, h2, h3, h4.mono fun _ _ h => .inl h⟩)⟩, trivial⟩ ?_
                  clear S; intro E a w S
                  obtain ⟨E, S⟩ := St.read 6 0 1006 (iQZ r14.1) (⟨[(1, .sl 1), (18, iv (r8.1)), (21, .gr 2), (23, .sl 1006), (24, iv (r14.2))], ⟨[(6, .held (SlicesAre 0 [(iQZ r14.1)]))], ((1006, (iQZ r14.1)) :: ((1004, (iQZ x1)) :: ((1003, (iQZ r2.1)) :: (wormtublaw05_StreamPlans_R room l by')))), [(2, ⟨3, 1, ((([] : List Int) ++ room).set (Int.toNat (hour.tmod (((([] : List Int) ++ room).length : Nat) : Int))) (min 8796093022208 (((([] : List Int) ++ room).getD (Int.toNat (hour.tmod (((([] : List Int) ++ room).length : Nat) : Int))) default) + more))).length, ((([] : List Int) ++ room).set (Int.toNat (hour.tmod (((([] : List Int) ++ room).length : Nat) : Int))) (min 8796093022208 (((([] : List Int) ++ room).getD (Int.toNat (hour.tmod (((([] : List Int) ++ room).length : Nat) : Int))) default) + more))).flatMap (fun x => [.int .i64 x])⟩)]⟩⟩) rfl (fun v w h => h.1) (by intro _ h; cases h) (by kernel_rfl) (by kernel_rfl) S
                  refine wp_seq ?_
                  refine sym_seq lay_ok mixed [(3, { og := true }), (4, { og := true }), (5, { og := true }), (6, { og := true }), (7, { og := true }), (8, { pk := true })] [1, 18, 21, 23, 261] [] (⟨[(1, .sl 1), (18, iv (r8.1)), (21, .gr 2), (23, .sl 1006), (261, .v (.bool ((r14.2 != 0) || (((r14.1.length : Nat) : Int) != ((l.length : Nat) : Int)))))], ⟨[], ((1006, (iQZ r14.1)) :: ((1004, (iQZ x1)) :: ((1003, (iQZ r2.1)) :: (wormtublaw05_StreamPlans_R room l by')))), [(2, ⟨3, 1, ((([] : List Int) ++ room).set (Int.toNat (hour.tmod (((([] : List Int) ++ room).length : Nat) : Int))) (min 8796093022208 (((([] : List Int) ++ room).getD (Int.toNat (hour.tmod (((([] : List Int) ++ room).length : Nat) : Int))) default) + more))).length, ((([] : List Int) ++ room).set (Int.toNat (hour.tmod (((([] : List Int) ++ room).length : Nat) : Int))) (min 8796093022208 (((([] : List Int) ++ room).getD (Int.toNat (hour.tmod (((([] : List Int) ++ room).length : Nat) : Int))) default) + more))).flatMap (fun x => [.int .i64 x])⟩)]⟩⟩) [.imp (!(r14.2 != 0)) (!(r14.2 != 0)), .imp (!(r14.2 != 0)) (!(r14.2 != 0)), .imp (!(r14.2 != 0)) (!(r14.2 != 0)), .imp (!(r14.2 != 0)) (!(r14.2 != 0)), .imp (!(r14.2 != 0)) (!(r14.2 != 0))] S (by kernel_rfl) (by kernel_rfl) (by kernel_rfl) ⟨fun h => h, fun h => h, fun h => h, fun h => h, fun h => h, trivial⟩ ?_
                  clear S; intro E a w S
                  refine sym_if_last (b := ((r14.2 != 0) || (((r14.1.length : Nat) : Int) != ((l.length : Nat) : Int)))) S rfl (fun hb17 => ?_) (fun hb17 => ?_)
                  · have h := bif_t hb17 h
                    refine sym_seq lay_ok mixed [] [10] [] (⟨[(10, .v (.bool false))], ⟨[], ((1006, (iQZ r14.1)) :: ((1004, (iQZ x1)) :: ((1003, (iQZ r2.1)) :: (wormtublaw05_StreamPlans_R room l by')))), [(2, ⟨3, 1, ((([] : List Int) ++ room).set (Int.toNat (hour.tmod (((([] : List Int) ++ room).length : Nat) : Int))) (min 8796093022208 (((([] : List Int) ++ room).getD (Int.toNat (hour.tmod (((([] : List Int) ++ room).length : Nat) : Int))) default) + more))).length, ((([] : List Int) ++ room).set (Int.toNat (hour.tmod (((([] : List Int) ++ room).length : Nat) : Int))) (min 8796093022208 (((([] : List Int) ++ room).getD (Int.toNat (hour.tmod (((([] : List Int) ++ room).length : Nat) : Int))) default) + more))).flatMap (fun x => [.int .i64 x])⟩)]⟩⟩) [] S (by kernel_rfl) (by kernel_rfl) (by kernel_rfl) trivial ?_
                    clear S; intro E a w S
                    refine wp_ret ?_
                    refine out_then_ret ?_
                    have h := Option.some.inj h
                    subst h
                    exact sym_ret lay_ok [.v (.bool false)] (by kernel_rfl) rfl S ⟨rfl, S.below rfl⟩
                  · have h := bif_f hb17 h
                    refine wp_skip ?_
                    refine out_then_normal ?_
                    obtain ⟨r15, e18, h⟩ := bind_some h
                    refine sym_seq lay_ok mixed [(3, { res := .tup [iv (r15.1), .v (.bool r15.2)] })] [18, 25] [] (⟨[(18, iv (r8.1)), (25, iv (r15.1))], ⟨[], ((1006, (iQZ r14.1)) :: ((1004, (iQZ x1)) :: ((1003, (iQZ r2.1)) :: (wormtublaw05_StreamPlans_R room l by')))), [(2, ⟨3, 1, ((([] : List Int) ++ room).set (Int.toNat (hour.tmod (((([] : List Int) ++ room).length : Nat) : Int))) (min 8796093022208 (((([] : List Int) ++ room).getD (Int.toNat (hour.tmod (((([] : List Int) ++ room).length : Nat) : Int))) default) + more))).length, ((([] : List Int) ++ room).set (Int.toNat (hour.tmod (((([] : List Int) ++ room).length : Nat) : Int))) (min 8796093022208 (((([] : List Int) ++ room).getD (Int.toNat (hour.tmod (((([] : List Int) ++ room).length : Nat) : Int))) default) + more))).flatMap (fun x => [.int .i64 x])⟩)]⟩⟩) [.call ⟨[], ((1006, (iQZ r14.1)) :: ((1004, (iQZ x1)) :: ((1003, (iQZ r2.1)) :: (wormtublaw05_StreamPlans_R room l by')))), [(2, ⟨3, 1, ((([] : List Int) ++ room).set (Int.toNat (hour.tmod (((([] : List Int) ++ room).length : Nat) : Int))) (min 8796093022208 (((([] : List Int) ++ room).getD (Int.toNat (hour.tmod (((([] : List Int) ++ room).length : Nat) : Int))) default) + more))).length, ((([] : List Int) ++ room).set (Int.toNat (hour.tmod (((([] : List Int) ++ room).length : Nat) : Int))) (min 8796093022208 (((([] : List Int) ++ room).getD (Int.toNat (hour.tmod (((([] : List Int) ++ room).length : Nat) : Int))) default) + more))).flatMap (fun x => [.int .i64 x])⟩)]⟩ 32 [.gr 2, .sl 1, .sl 1006] (.tup [iv (r15.1), .v (.bool r15.2)])] S (by kernel_rfl) (by kernel_rfl) (by kernel_rfl) ⟨⟨enters_32, fun E W _ hm => by obtain ⟨A0, c0, q0, l0, s0⟩ := Mem.grSl hm (k := 2) rfl; obtain ⟨A1, c1, q1, l1, s1, _⟩ := Mem.sl hm (s := 1) rfl; obtain ⟨A2, c2, q2, l2, s2, _⟩ := Mem.sl hm (s := 1006) rfl; simp only [SV.vals, SV.val, q0, q1, q2]; exact wormtubref05_Plan_ok fuel ((([] : List Int) ++ room).set (Int.toNat (hour.tmod (((([] : List Int) ++ room).length : Nat) : Int))) (min 8796093022208 (((([] : List Int) ++ room).getD (Int.toNat (hour.tmod (((([] : List Int) ++ room).length : Nat) : Int))) default) + more))) l r14.1 W A0 c0 l0 (s0 _ (flat_get (fun x => [.int .i64 x]) 1 (fun _ => rfl) ((([] : List Int) ++ room).set (Int.toNat (hour.tmod (((([] : List Int) ++ room).length : Nat) : Int))) (min 8796093022208 (((([] : List Int) ++ room).getD (Int.toNat (hour.tmod (((([] : List Int) ++ room).length : Nat) : Int))) default) + more))))) A1 c1 l1 s1 A2 c2 l2 s2 r15 e18⟩, trivial⟩ ?_
                    clear S; intro E a w S
                    obtain ⟨r16, e19, h⟩ := bind_some h
                    refine sym_seq lay_ok mixed [(4, { og := true, res := .v (.bool r16) }), (5, { pk := true })] [10] [] (⟨[(10, .v (.bool (decide (r15.1 ≤ r8.1) && r16)))], ⟨[], ((1006, (iQZ r14.1)) :: ((1004, (iQZ x1)) :: ((1003, (iQZ r2.1)) :: (wormtublaw05_StreamPlans_R room l by')))), [(2, ⟨3, 1, ((([] : List Int) ++ room).set (Int.toNat (hour.tmod (((([] : List Int) ++ room).length : Nat) : Int))) (min 8796093022208 (((([] : List Int) ++ room).getD (Int.toNat (hour.tmod (((([] : List Int) ++ room).length : Nat) : Int))) default) + more))).length, ((([] : List Int) ++ room).set (Int.toNat (hour.tmod (((([] : List Int) ++ room).length : Nat) : Int))) (min 8796093022208 (((([] : List Int) ++ room).getD (Int.toNat (hour.tmod (((([] : List Int) ++ room).length : Nat) : Int))) default) + more))).flatMap (fun x => [.int .i64 x])⟩)]⟩⟩) [.when (decide (r15.1 ≤ r8.1)) (.call ⟨[], ((1006, (iQZ r14.1)) :: ((1004, (iQZ x1)) :: ((1003, (iQZ r2.1)) :: (wormtublaw05_StreamPlans_R room l by')))), [(2, ⟨3, 1, ((([] : List Int) ++ room).set (Int.toNat (hour.tmod (((([] : List Int) ++ room).length : Nat) : Int))) (min 8796093022208 (((([] : List Int) ++ room).getD (Int.toNat (hour.tmod (((([] : List Int) ++ room).length : Nat) : Int))) default) + more))).length, ((([] : List Int) ++ room).set (Int.toNat (hour.tmod (((([] : List Int) ++ room).length : Nat) : Int))) (min 8796093022208 (((([] : List Int) ++ room).getD (Int.toNat (hour.tmod (((([] : List Int) ++ room).length : Nat) : Int))) default) + more))).flatMap (fun x => [.int .i64 x])⟩)]⟩ 12 [] (.v (.bool r16))), .imp (decide (r15.1 ≤ r8.1)) (decide (r15.1 ≤ r8.1))] S (by kernel_rfl) (by kernel_rfl) (by kernel_rfl) ⟨fun hW => ⟨enters_12, fun _ W _ hm => wormtublaw05_awake_ok  W r16 (bif_t hW e19)⟩, fun h => h, trivial⟩ ?_
                    clear S; intro E a w S
                    refine wp_ret ?_
                    have h := Option.some.inj h
                    subst h
                    exact sym_ret lay_ok [.v (.bool (decide (r15.1 ≤ r8.1) && r16))] (by kernel_rfl) rfl S ⟨rfl, S.below rfl⟩
end Go.Proofs.Ytlcccomdijdkaaa
namespace Go.Proofs.Ytlcccomdijdkaaa
open Go.RowKit Go.Proofs.Try

theorem hourLoop_eq {fuel : Nat} (hf : 1500 < fuel) {l : List MBurner} {S : List Int} (h : Small l S) (room : List Int) (hr : room.length ≤ 1000) : ∀ (n i : Nat), i ≤ room.length → room.length < i + n →
    (wormtubref05_Plan_l2 fuel room l S n (i : Int) = some (Lp.done ()) ∧ ∀ j, i ≤ j → j < room.length → usage l S j ≤ room.getD j 0) ∨ (wormtubref05_Plan_l2 fuel room l S n (i : Int) = some (Lp.ret (0, false)) ∧ ¬ ∀ j, j < room.length → usage l S j ≤ room.getD j 0) := by
  intro n
  induction n with
  | zero => intro i h1 h2; omega
  | succ n ih =>
    intro i h1 h2
    rw [wormtubref05_Plan_l2]
    by_cases hlt : i < room.length
    · have e : wormtubref05_Plan_l3 l S (i : Int) fuel (0, 0) = _ := useLoop_eq h i fuel 0 0 (by omega) (by omega) (by omega) (by have := h.1; have := h.2.1; omega)
      rw [List.drop_zero, List.drop_zero] at e
      have key : ∀ (b : Prop) [Decidable b] (x y : Option (Lp Unit (Int × Bool))), b → (bif decide b then x else y) = x := fun b _ x y hb => cond_t (decide_eq_true hb) x y
      rw [key _ _ _ (show (i : Int) < ((room.length : Nat) : Int) by omega), bind_ok e]
      have e0 : (0 : Int) + usage l S i = usage l S i := by omega
      rw [e0]
      by_cases hu : room.getD i 0 < usage l S i
      · refine .inr ⟨?_, fun hall => by have := hall i hlt; omega⟩
        refine Eq.trans (go_done _ _) ?_
        refine Eq.trans (grd_pos ⟨by omega, by omega⟩ _) ?_
        exact cond_t (decide_eq_true (by rw [Int.toNat_natCast]; exact hu)) _ _
      · have step : ((Lp.done (usage l S i) : Lp Int (Lp Unit (Int × Bool))).go fun x3 => (fun (x3 : Int) =>
            grd (((0 : Int) ≤ (i : Int) ∧ ((i : Int) : Int) < ((room.length : Nat) : Int))) <|
            (bif decide ((room.getD (Int.toNat (i : Int)) default) < x3) then (some (Lp.ret (0, false))) else
            (grd (InI64 ((i : Int) + 1)) <| wormtubref05_Plan_l2 fuel room l S n ((i : Int) + 1)))) x3) = wormtubref05_Plan_l2 fuel room l S n ((i : Int) + 1) := by
          refine Eq.trans (go_done _ _) ?_
          refine Eq.trans (grd_pos ⟨by omega, by omega⟩ _) ?_
          refine Eq.trans (cond_f (decide_eq_false (by rw [Int.toNat_natCast]; exact hu)) _ _) ?_
          exact grd_pos (by omega) _
        rw [step, show (i : Int) + 1 = ((i + 1 : Nat) : Int) by omega]
        rcases ih (i + 1) (by omega) (by omega) with ⟨q1, q2⟩ | hx
        · refine .inl ⟨q1, fun j j1 j2 => ?_⟩
          by_cases hji : j = i
          · subst hji; omega
          · exact q2 j (by omega) j2
        · exact .inr hx
    · rw [cond_f (decide_eq_false (by omega))]
      exact .inl ⟨rfl, fun j j1 j2 => by omega⟩
theorem refPlan_eq {fuel : Nat} (hf : 1500 < fuel) {l : List MBurner} {S : List Int} (h : Small l S) (room : List Int) (hr : room.length ≤ 1000) :
    (wormtubref05_Plan fuel room l S = some (max 0 (ends l S), true) ∧ ∀ j, j < room.length → usage l S j ≤ room.getD j 0) ∨ (wormtubref05_Plan fuel room l S = some (0, false) ∧ ¬ ∀ j, j < room.length → usage l S j ≤ room.getD j 0) := by
  have e1 : wormtubref05_Plan_l1 l S fuel (0, 0) = _ := endLoop_eq h fuel 0 0 (by omega) (by omega) (by have := h.1; have := h.2.1; omega)
  rw [List.drop_zero, List.drop_zero] at e1
  unfold wormtubref05_Plan
  rw [bind_ok e1]
  rcases hourLoop_eq hf h room hr fuel 0 (by omega) (by omega) with ⟨q1, q2⟩ | ⟨q1, q2⟩
  · refine .inl ⟨?_, fun j hj => q2 j (by omega) hj⟩
    refine Eq.trans (go_done _ _) ?_
    unfold wormtubref05_Plan_k2
    have q1' : wormtubref05_Plan_l2 fuel room l S fuel 0 = _ := q1
    rw [bind_ok q1']
    rfl
  · refine .inr ⟨?_, q2⟩
    refine Eq.trans (go_done _ _) ?_
    unfold wormtubref05_Plan_k2
    have q1' : wormtubref05_Plan_l2 fuel room l S fuel 0 = _ := q1
    rw [bind_ok q1']
    rfl
/-- starts within their hours, of the first few -/
def CondD : List MBurner → List Int → Prop
  | b :: l, s :: S => (b.ready ≤ s ∧ s + b.hours ≤ b.due) ∧ CondD l S
  | _, [] => True
  | [], _ :: _ => False
theorem CondD.of {by' : Int} : ∀ {l : List MBurner} {S : List Int}, Cond by' l S → CondD l S
  | [], [], _ => trivial
  | b :: l, s :: S, h => ⟨⟨h.1.1, by have := h.1.2; omega⟩, CondD.of h.2⟩
  | [], _ :: _, h => h.elim
  | _ :: _, [], h => h.elim
theorem CondD.cond {by' : Int} : ∀ {l : List MBurner} {S : List Int}, CondD l S → S.length = l.length → ends l S ≤ by' → Cond by' l S
  | [], [], _, _, _ => trivial
  | b :: l, s :: S, h, hl, he => by
    unfold ends at he
    exact ⟨⟨h.1.1, by have := h.1.2; omega⟩, CondD.cond h.2 (by simpa using hl) (by omega)⟩
  | [], _ :: _, h, _, _ => h.elim
  | _ :: _, [], _, hl, _ => by simp at hl
theorem ends_le {by' : Int} (h0 : 0 ≤ by') : ∀ {l : List MBurner} {S : List Int}, Cond by' l S → ends l S ≤ by'
  | [], [], _ => by unfold ends; exact h0
  | b :: l, s :: S, h => by
    have := ends_le h0 h.2
    unfold ends
    have := h.1.2
    omega
  | [], _ :: _, h => h.elim
  | _ :: _, [], h => h.elim
theorem ends_due {n : Int} (h0 : 0 ≤ n) : ∀ {l : List MBurner} {S : List Int}, (∀ b ∈ l, VB n b) → CondD l S → ends l S ≤ n
  | b :: l, s :: S, hv, h => by
    have := ends_due h0 (fun x hx => hv x (by simp [hx])) h.2
    have hb := hv b (by simp)
    unfold VB at hb
    unfold ends
    have := h.1.2
    omega
  | [], [], _, _ => by unfold ends; exact h0
  | _ :: _, [], _, _ => by unfold ends; exact h0
  | [], _ :: _, _, h => h.elim
theorem usage_late {n : Int} {j : Nat} (hj : n ≤ j) : ∀ {l : List MBurner} {S : List Int}, (∀ b ∈ l, VB n b) → CondD l S → usage l S j = 0
  | b :: l, s :: S, hv, h => by
    have := usage_late hj (fun x hx => hv x (by simp [hx])) h.2
    have hb := hv b (by simp)
    unfold VB at hb
    rw [usage, this]
    unfold term
    rw [if_neg (by have := h.1.2; omega)]
    rfl
  | [], [], _, _ => by unfold usage; rfl
  | _ :: _, [], _, _ => by unfold usage; rfl
  | [], _ :: _, _, h => h.elim
theorem CondD.small {n : Int} (hn : n ≤ 168) {l : List MBurner} (h6 : l.length ≤ 6) (hv : ∀ b ∈ l, VB n b) {S : List Int} (h : CondD l S) : Small l S := by
  have len : ∀ {l : List MBurner} {S : List Int}, CondD l S → S.length ≤ l.length := by
    intro l
    induction l with
    | nil => intro S h; cases S with
      | nil => simp
      | cons s S => exact h.elim
    | cons b l ih => intro S h; cases S with
      | nil => simp
      | cons s S => have := ih h.2; simp only [List.length_cons]; omega
  have mem : ∀ {l : List MBurner} {S : List Int}, (∀ b ∈ l, VB n b) → CondD l S → ∀ s ∈ S, -1000000 ≤ s ∧ s ≤ 1000000 := by
    intro l
    induction l with
    | nil => intro S _ h s hs; cases S with
      | nil => simp at hs
      | cons t T => exact h.elim
    | cons b l ih => intro S hv h s hs; cases S with
      | nil => simp at hs
      | cons t T =>
        rcases List.mem_cons.1 hs with rfl | hs
        · have hb := hv b (by simp)
          unfold VB at hb
          have := h.1
          omega
        · exact ih (fun x hx => hv x (by simp [hx])) h.2 s hs
  refine ⟨len h, by omega, fun b hb => ?_, mem hv h⟩
  have := hv b hb
  unfold VB at this
  omega
theorem CondD.snoc : ∀ {l : List MBurner} {S : List Int} {s : Int}, CondD l S → S.length < l.length → ((l.getD S.length default).ready ≤ s ∧ s + (l.getD S.length default).hours ≤ (l.getD S.length default).due) → CondD l (S ++ [s])
  | b :: l, [], s, _, _, h => ⟨h, by cases l <;> trivial⟩
  | b :: l, t :: S, s, h, hl, hs => ⟨h.1, CondD.snoc h.2 (by simpa using hl) (by simpa using hs)⟩
  | [], [], _, _, hl, _ => by simp at hl
  | [], _ :: _, _, h, _, _ => h.elim
/-- a plan that the document lets pass is one of the room -/
theorem okp_of {room : List Int} {l : List MBurner} {S : List Int} (hr : room.length ≤ 168) (hv : ∀ b ∈ l, VB room.length b) (hc : CondD l S) (hl : S.length = l.length) (hu : ∀ j, j < room.length → usage l S j ≤ room.getD j 0) : Okp (roomF room) (max 0 (ends l S)) l S := by
  refine ⟨hc.cond hl (by omega), fun j hj => ?_⟩
  rw [roomF_eq room hj]
  by_cases h : j < room.length
  · rw [if_pos h]; exact hu j h
  · rw [if_neg h, usage_late (n := room.length) (by omega) hv hc]
    exact Int.le_refl _
theorem okp_room {room : List Int} {by' : Int} {l : List MBurner} {S : List Int} (hr : room.length ≤ 168) (h : Okp (roomF room) by' l S) : ∀ j, j < room.length → usage l S j ≤ room.getD j 0 := fun j hj => by
  have := h.2 j (by omega)
  rw [roomF_eq room (by omega), if_pos hj] at this
  exact this
theorem candLoop_eq {n0 : Int} (hn : n0 ≤ 168) {l : List MBurner} (h6 : l.length ≤ 6) (hv : ∀ b ∈ l, VB n0 b) (by' : List Int) (hb : ∀ j, 0 ≤ by'.getD j default ∧ by'.getD j default ≤ 255) (hbl : by'.length ≤ 140737488355328) : ∀ (n i : Nat) (acc : List Int), acc.length = i → i ≤ l.length → l.length < i + n → CondD l acc →
    ∃ x, wormtublaw05_StreamPlans_l1 l by' n ((i : Int), acc) = some (Lp.done x) ∧ CondD l x := by
  intro n
  induction n with
  | zero => intro i acc _ h1 h2; omega
  | succ n ih =>
    intro i acc ha h1 h2 hc
    rw [wormtublaw05_StreamPlans_l1]
    by_cases hlt : i < l.length ∧ 0 < by'.length
    · obtain ⟨g1, g2⟩ := hlt
      have hq := hv _ (getD_mem g1)
      refine ?_
      have c1 : (decide (((i : Int), acc).1 < ((l.length : Nat) : Int)) && decide (0 < ((by'.length : Nat) : Int))) = true := by
        rw [decide_eq_true (by simp only; omega), decide_eq_true (by omega)]; rfl
      rw [cond_t c1]
      simp only [Int.toNat_natCast]
      simp only [tmod_eq (show (0 : Int) ≤ (i : Int) by omega)]
      have m1 := Int.emod_nonneg (i : Int) (b := ((by'.length : Nat) : Int)) (by omega)
      have m2 := Int.emod_lt_of_pos (i : Int) (b := ((by'.length : Nat) : Int)) (by omega)
      have hbv := hb ((i : Int) % ((by'.length : Nat) : Int)).toNat
      simp only [tmod_eq hbv.1]
      obtain ⟨b, hbe⟩ : ∃ b, b = l.getD i default := ⟨_, rfl⟩
      simp only [← hbe] at hq ⊢
      obtain ⟨v1, v2, v3, v4, v5, v6, v7⟩ := hq
      obtain ⟨u, hu⟩ : ∃ u, u = by'.getD ((i : Int) % ((by'.length : Nat) : Int)).toNat default := ⟨_, rfl⟩
      simp only [← hu] at hbv ⊢
      have k1 := Int.emod_nonneg u (b := b.due - b.hours - b.ready + 1) (by omega)
      have k2 := Int.emod_lt_of_pos u (b := b.due - b.hours - b.ready + 1) (by omega)
      obtain ⟨w, hw⟩ : ∃ w, w = u % (b.due - b.hours - b.ready + 1) := ⟨_, rfl⟩
      simp only [← hw] at k1 k2 ⊢
      rw [grd_pos (by refine ⟨⟨by omega, by omega⟩, by omega, ⟨by omega, by omega⟩, by omega, by omega, by omega, by omega, by omega, ?_⟩; first | (constructor <;> omega) | omega), grd_pos (by omega)]
      have := ih (i + 1) (acc ++ [b.ready + w]) (by simp [ha]) (by omega) (by omega) (hc.snoc (by omega) (by rw [ha, ← hbe]; omega))
      rw [show ((i + 1 : Nat) : Int) = (i : Int) + 1 by omega] at this
      exact this
    · refine ⟨acc, cond_f ?_ _ _, hc⟩
      by_cases g1 : i < l.length
      · rw [decide_eq_true (by simp only; omega), decide_eq_false (by omega)]; rfl
      · rw [decide_eq_false (by simp only; omega)]; rfl
end Go.Proofs.Ytlcccomdijdkaaa
namespace Go.Proofs.Ytlcccomdijdkaaa
open Go.RowKit Go.Proofs.Try

theorem set_get {room : List Int} {k : Nat} {x : Int} {j : Nat} (hj : j < room.length) : (room.set k x).getD j 0 = if j = k then x else room.getD j 0 := by
  by_cases h : j = k
  · subst h
    simp [List.getD, hj]
  · rw [if_neg h]
    simp [List.getD, List.getElem?_set, Ne.symm h]
theorem more_ok {room : List Int} {l : List MBurner} (hV : VR room) (hB : VBs room.length l) {S : List Int} {E x : Int} {k : Nat} (hS : Okp (roomF room) E l S) (hE : 0 ≤ E) (hE2 : E ≤ room.length) (hx : room.getD k 0 ≤ x ∧ 0 ≤ x ∧ x ≤ 8796093022208) :
    ∃ S2, stream_Runs FU (room.set k x) l = some (S2, 0) ∧ S2.length = l.length ∧ ∃ e, wormtubref05_Plan FU (room.set k x) l S2 = some (e, true) ∧ e ≤ E := by
  have hF : (1500 : Nat) < FU := by decide
  have hr := hV.1
  have hlen : (room.set k x).length = room.length := by simp
  have hV2 : VR (room.set k x) := ⟨by omega, fun y hy => by
    rcases List.mem_or_eq_of_mem_set hy with h | h
    · exact hV.2 y h
    · subst h; exact hx.2⟩
  have hB2 : VBs (room.set k x).length l := by rw [hlen]; exact hB
  have hle : ∀ j, j < 168 → roomF room j ≤ roomF (room.set k x) j := fun j hj => by
    rw [roomF_eq _ hj, roomF_eq _ hj, hlen]
    by_cases h : j < room.length
    · rw [if_pos h, if_pos h, set_get h]
      by_cases hk : j = k
      · subst hk; rw [if_pos rfl]; exact hx.1
      · rw [if_neg hk]; exact Int.le_refl _
    · rw [if_neg h, if_neg h]; exact Int.le_refl _
  have hfe : Fea (roomF (room.set k x)) E l := ⟨S, hS.1, fun j hj => Int.le_trans (hS.2 j hj) (hle j hj)⟩
  obtain ⟨⟨S2, c⟩, e, h⟩ := Runs_says (room.set k x) l (by omega)
  rcases h with ⟨_, hno⟩ | ⟨_, ⟨_, hno⟩ | ⟨hc, b2, q1, q2, q3, q4, _⟩⟩
  · exact absurd ⟨hV2, hB2⟩ hno
  · exact absurd hfe (hno E hE (by omega))
  · simp only at hc q4
    subst hc
    have hbE : b2 ≤ E := Int.le_of_not_gt fun hgt => q3 E hE hgt hfe
    have hsm : Small l S2 := (CondD.of q4.1).small (n := (room.set k x).length) (by omega) hB2.1 hB2.2
    refine ⟨S2, e, q4.1.len, ?_⟩
    rcases refPlan_eq hF hsm (room.set k x) (by omega) with ⟨p1, _⟩ | ⟨_, p2⟩
    · refine ⟨_, p1, ?_⟩
      have := ends_le q1 q4.1
      omega
    · exact absurd (okp_room (by omega) q4) p2
theorem tail_true {room : List Int} {l : List MBurner} (hV : VR room) (hB : VBs room.length l) {S : List Int} {E hour more : Int} (hS : Okp (roomF room) E l S) (hE : 0 ≤ E) (hE2 : E ≤ room.length) (hh : 0 ≤ hour ∧ hour ≤ 255) (hm : 0 ≤ more ∧ more ≤ 4294967295) : wormtublaw05_StreamPlans_k1 FU room l hour more (E, true) () = some true := by
  have hr := hV.1
  unfold wormtublaw05_StreamPlans_k1
  by_cases h0 : room.length = 0
  · refine Eq.trans (cond_t (by simp [h0]) _ _) ?_
    rw [awake_true]
    rfl
  · refine Eq.trans (cond_f (by simpa using h0) _ _) ?_
    rw [List.nil_append, tmod_eq hh.1]
    have k1 := Int.emod_nonneg hour (b := ((room.length : Nat) : Int)) (by omega)
    have k2 := Int.emod_lt_of_pos hour (b := ((room.length : Nat) : Int)) (by omega)
    obtain ⟨k, hk⟩ : ∃ k, k = hour % ((room.length : Nat) : Int) := ⟨_, rfl⟩
    rw [← hk] at k1 k2 ⊢
    have hmem : room.getD k.toNat 0 ∈ room := by
      have hkl : k.toNat < room.length := by omega
      have e : room.getD k.toNat 0 = room[k.toNat] := by simp [List.getD, hkl]
      rw [e]
      exact List.getElem_mem hkl
    have hv := hV.2 _ hmem
    have hdef : room.getD k.toNat default = room.getD k.toNat 0 := rfl
    rw [hdef]
    rw [grd_pos (by simp only [List.length_nil]; omega), grd_pos ⟨by omega, by omega⟩, grd_pos ⟨⟨k1, k2⟩, by omega, by omega, k1, k2⟩]
    obtain ⟨S2, e1, e2, e, e3, e4⟩ := more_ok (k := k.toNat) (x := min 8796093022208 (room.getD k.toNat 0 + more)) hV hB hS hE hE2 ⟨by omega, by omega, by omega⟩
    refine Eq.trans (bind_ok e1 _) ?_
    refine Eq.trans (cond_f (by simp [e2]) _ _) ?_
    refine Eq.trans (bind_ok e3 _) ?_
    simp [e4, awake_true]
theorem dueLoop_eq {l : List MBurner} {z : List Int × Int} (h : ∀ i, i < z.1.length → (l.getD i default).ready ≤ z.1.getD i default ∧ z.1.getD i default + (l.getD i default).hours ≤ (l.getD i default).due) (hl : z.1.length = l.length) (h6 : l.length ≤ 6) (hsm : Small l z.1) : ∀ (n i : Nat), i ≤ z.1.length → z.1.length < i + n → wormtublaw05_StreamPlans_l2 l z n (i : Int) = some (Lp.done ()) := by
  intro n
  induction n with
  | zero => intro i h1 h2; omega
  | succ n ih =>
    intro i h1 h2
    rw [wormtublaw05_StreamPlans_l2]
    by_cases hlt : i < z.1.length
    · have hi := h i hlt
      have hb := hsm.2.2.1 _ (getD_mem (l := l) (i := i) (by omega))
      have hs := hsm.2.2.2 _ (getI_mem hlt)
      rw [cond_t (decide_eq_true (by omega))]
      simp only [Int.toNat_natCast]
      rw [grd_pos ⟨⟨by omega, by omega⟩, ⟨by omega, by omega⟩, fun _ => ⟨by omega, by omega⟩, fun _ => ⟨by omega, by omega⟩, fun _ => by omega⟩,
        cond_f (by rw [decide_eq_false (by omega), decide_eq_false (by omega)]; rfl), grd_pos (by omega)]
      exact ih (i + 1) (by omega) (by omega)
    · rw [cond_f (decide_eq_false (by omega))]
theorem CondD.get : ∀ {l : List MBurner} {S : List Int}, CondD l S → ∀ i, i < S.length → (l.getD i default).ready ≤ S.getD i default ∧ S.getD i default + (l.getD i default).hours ≤ (l.getD i default).due
  | b :: l, s :: S, h, 0, _ => h.1
  | b :: l, s :: S, h, i + 1, hi => by
    have := CondD.get h.2 i (by simpa using hi)
    simpa using this
  | [], [], _, i, hi => by simp at hi
  | _ :: _, [], _, i, hi => by simp at hi
  | [], _ :: _, h, _, _ => h.elim
theorem lex_drop : ∀ (S T : List Int) (i : Nat), LexLe (S.drop i) (T.drop i) → i < S.length → i < T.length → S.getD i default < T.getD i default ∨ (S.getD i default = T.getD i default ∧ LexLe (S.drop (i + 1)) (T.drop (i + 1))) := fun S T i h h1 h2 => by
  rw [drop_get h1, drop_get h2] at h
  exact h
theorem lexLoop_eq {z : List Int × Int} {x : List Int} (hl : z.1.length = x.length) (h6 : x.length ≤ 1000) : ∀ (n i : Nat), i ≤ z.1.length → z.1.length < i + n → LexLe (z.1.drop i) (x.drop i) → wormtublaw05_StreamPlans_l3 z x n (i : Int) = some (Lp.done ()) := by
  intro n
  induction n with
  | zero => intro i h1 h2; omega
  | succ n ih =>
    intro i h1 h2 hx
    rw [wormtublaw05_StreamPlans_l3]
    by_cases hlt : i < z.1.length
    · rw [cond_t (decide_eq_true (by omega)), grd_pos ⟨⟨by omega, by omega⟩, ⟨by omega, by omega⟩⟩]
      simp only [Int.toNat_natCast]
      rcases lex_drop z.1 x i hx hlt (by omega) with h | ⟨h, h'⟩
      · rw [cond_t (by simp only [bne_iff_ne]; omega), cond_f (decide_eq_false (by omega))]
      · rw [cond_f (by rw [h]; simp), grd_pos (by omega)]
        exact ih (i + 1) (by omega) (by omega) h'
    · rw [cond_f (decide_eq_false (by omega))]
theorem plans_true (room : List Int) (l : List MBurner) (by' : List Int) (hour more : Int) (hb : ∀ j, 0 ≤ by'.getD j default ∧ by'.getD j default ≤ 255) (hbl : by'.length ≤ 140737488355328) (hh : 0 ≤ hour ∧ hour ≤ 255) (hm : 0 ≤ more ∧ more ≤ 4294967295) : wormtublaw05_StreamPlans FU room l by' hour more = some true := by
  have hF : (1500 : Nat) < FU := by decide
  unfold wormtublaw05_StreamPlans
  by_cases hbig : 20 < room.length ∨ 5 < l.length
  · refine Eq.trans (cond_t (by simp only [Bool.or_eq_true, decide_eq_true_eq]; omega) _ _) ?_
    rw [awake_true]
    rfl
  · refine Eq.trans (cond_f (by simp only [Bool.or_eq_false_iff, decide_eq_false_iff_not]; omega) _ _) ?_
    obtain ⟨⟨S, c⟩, er, hr⟩ := Runs_says room l (by omega)
    refine Eq.trans (bind_ok er _) ?_
    rcases hr with ⟨hr, _⟩ | ⟨⟨hV, hB⟩, hr⟩
    · injection hr with h1 h2
      subst h1 h2
      refine Eq.trans (cond_t (by rfl) _ _) ?_
      simp [awake_true]
    · have hc : ((c != 0) && (c != 4)) = false := by
        rcases hr with ⟨hr, _⟩ | ⟨hr, _⟩
        · injection hr with h1 h2; subst h2; rfl
        · simp only at hr; subst hr; rfl
      refine Eq.trans (cond_f hc _ _) ?_
      refine Eq.trans (bind_ok (refRooms_ok hF hV) _) ?_
      refine Eq.trans (bind_ok (show (bif !(!true) then wormtubref05_Burners FU ((room.length : Nat) : Int) l else some default) = some true from refBurners_ok hF (by omega) hB) _) ?_
      refine Eq.trans (cond_f (by rfl) _ _) ?_
      obtain ⟨x, ex, hx⟩ := candLoop_eq (n0 := room.length) (by omega) hB.1 hB.2 by' hb hbl FU 0 [] rfl (by omega) (by omega) (by cases l <;> trivial)
      refine Eq.trans (bind_ok ex _) ?_
      refine Eq.trans (go_done _ _) ?_
      have hxs : Small l x := hx.small (n := room.length) (by omega) hB.1 hB.2
      have hxd := ends_due (n := room.length) (by omega) hB.2 hx
      -- a candidate that passes is a plan
      have hcand : ∃ r6 : Int × Bool, wormtubref05_Plan FU room l x = some r6 ∧ ((r6.2 && (((x.length : Nat) : Int) == ((l.length : Nat) : Int))) = true → x.length = l.length ∧ r6.1 = max 0 (ends l x) ∧ Okp (roomF room) r6.1 l x) := by
        rcases refPlan_eq hF hxs room (by omega) with ⟨p1, p2⟩ | ⟨p1, _⟩
        · refine ⟨_, p1, fun h => ?_⟩
          have hl : x.length = l.length := by
            have : ((x.length : Nat) : Int) = ((l.length : Nat) : Int) := by simpa using h
            omega
          exact ⟨hl, rfl, okp_of (by omega) hB.2 hx hl p2⟩
        · exact ⟨_, p1, fun h => by simp at h⟩
      obtain ⟨r6, e6, h6⟩ := hcand
      unfold wormtublaw05_StreamPlans_k3
      refine Eq.trans (bind_ok e6 _) ?_
      rcases hr with ⟨hr, hno⟩ | ⟨hr, b9, q1, q2, q3, q4, q5⟩
      · injection hr with h1 h2
        subst h1 h2
        have hfl : (r6.2 && (((x.length : Nat) : Int) == ((l.length : Nat) : Int))) = false := by
          cases hq : (r6.2 && (((x.length : Nat) : Int) == ((l.length : Nat) : Int))) with
          | false => rfl
          | true =>
            obtain ⟨_, g2, g3⟩ := h6 hq
            exact absurd ⟨x, g3⟩ (hno r6.1 (by omega) (by omega))
        refine Eq.trans (cond_t (by rfl) _ _) ?_
        simp only [hfl]
        simp [awake_true]
      · simp only at hr q4 q5
        subst hr
        have hSl := q4.1.len
        have hSd := CondD.of q4.1
        have hSs : Small l S := hSd.small (n := room.length) (by omega) hB.1 hB.2
        have hSe := ends_le q1 q4.1
        refine Eq.trans (cond_f (by rfl) _ _) ?_
        refine Eq.trans (cond_f (by simp [hSl]) _ _) ?_
        have e2 : wormtublaw05_StreamPlans_l2 l (S, 0) FU 0 = _ := dueLoop_eq (z := (S, 0)) hSd.get hSl (by omega) hSs FU 0 (by omega) (by simp only; omega)
        refine Eq.trans (bind_ok e2 _) ?_
        refine Eq.trans (go_done _ _) ?_
        unfold wormtublaw05_StreamPlans_k2
        rcases refPlan_eq hF hSs room (by omega) with ⟨p1, _⟩ | ⟨_, p2⟩
        · refine Eq.trans (bind_ok p1 _) ?_
          have hE0 : 0 ≤ max 0 (ends l S) := by omega
          have hEb : max 0 (ends l S) ≤ b9 := by omega
          have hSE : Okp (roomF room) (max 0 (ends l S)) l S := ⟨hSd.cond hSl (by omega), q4.2⟩
          have htail := tail_true (hour := hour) (more := more) hV hB hSE hE0 (by omega) hh hm
          have hfl : ((r6.2 && (((x.length : Nat) : Int) == ((l.length : Nat) : Int))) && decide (r6.1 < max 0 (ends l S))) = false := by
            cases hq : (r6.2 && (((x.length : Nat) : Int) == ((l.length : Nat) : Int))) with
            | false => rfl
            | true =>
              obtain ⟨_, g2, g3⟩ := h6 hq
              have : b9 ≤ r6.1 := Int.le_of_not_gt fun hgt => q3 r6.1 (by omega) hgt ⟨x, g3⟩
              rw [decide_eq_false (by omega)]
              rfl
          refine Eq.trans (cond_f (by simp only [hfl]; rfl) _ _) ?_
          by_cases hq : ((r6.2 && (((x.length : Nat) : Int) == ((l.length : Nat) : Int))) && (r6.1 == max 0 (ends l S))) = true
          · refine Eq.trans (cond_t hq _ _) ?_
            simp only [Bool.and_eq_true] at hq
            obtain ⟨g1, g2, g3⟩ := h6 (by simp only [Bool.and_eq_true]; exact hq.1)
            have ge : r6.1 = max 0 (ends l S) := by simpa using hq.2
            have hxo : Okp (roomF room) b9 l x := ⟨g3.1.mono (by omega), g3.2⟩
            have e3 : wormtublaw05_StreamPlans_l3 (S, 0) x FU 0 = _ := lexLoop_eq (z := (S, 0)) (x := x) (by simp only; omega) (by omega) FU 0 (by omega) (by simp only; omega) (q5 x hxo)
            refine Eq.trans (bind_ok e3 _) ?_
            refine Eq.trans (go_done _ _) ?_
            exact htail
          · have hq' : ((r6.2 && (((x.length : Nat) : Int) == ((l.length : Nat) : Int))) && (r6.1 == max 0 (ends l S))) = false := by simpa using hq
            refine Eq.trans (cond_f hq' _ _) ?_
            exact htail
        · exact absurd (okp_room (by omega) q4) p2
end Go.Proofs.Ytlcccomdijdkaaa
namespace Go.Proofs.Ytlcccomdijdkaaa
open Go.ChangeShapes Go.WideShapes Go.ChangeAt Go.RowKit Go.Deep

section
variable {H : Type} {enc : TypeId × Value → H} {w : World} {base : Nat} {spare : Nat → Bool} {held : Bool}
set_option maxRecDepth 100000 in
theorem open_u8s_at {fuel : Nat} {v : Value} {x : DataW H × List MemPlace} (h : DataW.trod enc Try.prog w base spare held fuel 63 [v] = some x) (hw : ∀ n ∈ x.1.weights Try.prog 63, n ≤ reachBytes) :
    ∃ (A : Option Addr) (xs : List Int) (c : Nat), v = .slice A xs.length c ∧ xs.length ≤ c ∧ (SlAt w A xs.length 1 fun i => [.int .u8 (xs.getD i default)]) ∧ xs.length ≤ 140737488355328 ∧ ∀ j, 0 ≤ xs.getD j default ∧ xs.getD j default ≤ 255 := by
  rcases open_ints Try.underlying63 Try.underlying5 (by kernel_rfl) h with ⟨hcs, _⟩ | ⟨a, len, cap, zs, hcs, _, hl, _, hz, hx, hcell, hwf⟩
  · simp only [List.cons.injEq, and_true] at hcs
    exact ⟨none, [], 0, hcs, Nat.le_refl _, fun h => absurd h (Nat.lt_irrefl 0), by simp, fun j => by simp only [List.getD_nil]; decide⟩
  · simp only [List.cons.injEq, and_true] at hcs
    have hlz : len ≤ zs.length := by rw [hz]; split <;> omega
    have hlen : (zs.take len).length = len := by simp; omega
    have h1 := hw (((lits (H := H) .u8 (zs.take len)).length + (lits (H := H) .u8 (zs.drop len)).length) * Try.prog.bytesOf 5) (by rw [hx]; simp [DataW.weights, Try.underlying63])
    rw [show Try.prog.bytesOf 5 = 1 by kernel_rfl] at h1
    simp only [lits, List.length_map, reachBytes] at h1
    refine ⟨some a, zs.take len, cap, by rw [hlen]; exact hcs, by rw [hlen]; exact hl, fun h0 => ?_, by omega, fun j => ?_⟩
    · obtain ⟨b, off, rfl, hc'⟩ := ints_at hcell (by omega)
      refine ⟨b, off, rfl, cell_lt (hc' 0 (by omega)), fun i hi j v hj => ?_⟩
      cases j with
      | succ j => simp at hj
      | zero =>
        simp only [List.getElem?_cons_zero, Option.some.injEq] at hj
        subst hj
        rw [Nat.mul_one, Nat.add_zero, hc' i (by omega)]
        have : i < len := by omega
        simp [List.getD, List.getElem?_take, this]
    · rw [List.getD]
      cases hj : (zs.take len)[j]? with
      | none => simp only [Option.getD_none]; decide
      | some n =>
        have h2 := hwf n (List.mem_of_mem_take (List.mem_of_getElem? hj))
        simp only [Lit.wf, Bool.and_eq_true, decide_eq_true_eq] at h2
        have h3 : IntKind.u8.min = 0 := rfl
        have h4 : IntKind.u8.max = 255 := rfl
        simp only [Option.getD_some]
        omega
set_option maxRecDepth 100000 in
theorem open_u8s {r : Reach} {b0 : Nat} {v : Value} {d : DataW H} {p : List MemPlace} (hv : Value.okWide Try.prog w r b0 63 v) (h : DataW.Trod enc Try.prog w base spare held 63 v d p) (hw : ∀ n ∈ d.weights Try.prog 63, n ≤ reachBytes) :
    ∃ (A : Option Addr) (xs : List Int) (c : Nat), v = .slice A xs.length c ∧ xs.length ≤ c ∧ (SlAt w A xs.length 1 fun i => [.int .u8 (xs.getD i default)]) ∧ xs.length ≤ 140737488355328 ∧ ∀ j, 0 ≤ xs.getD j default ∧ xs.getD j default ≤ 255 := by
  obtain ⟨a0, l0, c0, rfl⟩ := okWide_slice Try.underlying63 hv
  obtain ⟨fuel, hf⟩ := h
  exact open_u8s_at (v := .slice a0 l0 c0) (x := (d, p)) hf hw
end
end Go.Proofs.Ytlcccomdijdkaaa
namespace Go.Proofs.Ytlcccomdijdkaaa.streamPlans
open Go.ChangeShapes Go.WideShapes Go.ChangeAt Go.RowKit Go.Deep
theorem own : ownKnob Try.prog.godebug = none := by kernel_rfl
theorem laidOut : laidOutB Try.prog = true := by kernel_rfl
set_option maxHeartbeats 1000000 in
set_option maxRecDepth 100000 in
theorem lifted (os : Os) (started : os.Started) (H : Type) (enc : TypeId × Value → H) :
    ReturnsInHanded {} Try.checked os 10 .any (Rows.streamPlansSpec.pre6 enc Try.prog Try.f10 Rows.streamPlansRow.domain false) (Rows.streamPlansSpec.post enc Try.prog Try.f10 false true false false) := by
  refine returnsInHanded_of_change_sized (C := Try.checked) own started (by kernel_rfl) Try.func10
    (ChangeSpec.witness6 (enc := enc) (C := Try.checked) false ⟨#[], #[.slice none 0 0, .slice none 0 0, .slice none 0 0, .int .u8 0, .int .u32 0], []⟩ 8 (by kernel_rfl) (by kernel_rfl) (by kernel_rfl) (by kernel_rfl)) ?_
  intro W base args ds gs before hval0 hW _ hsz0 _
  have hsz : (DataW.weightsEach Try.prog (Try.f10.params.toList ++ Rows.streamPlansSpec.plain.varTypes Try.prog) (ds ++ gs)).all (· ≤ reachBytes) = true := hsz0
  have hval : ∀ (j : Nat) t v, Try.f10.params[j]? = some t → args[j]? = some v → Value.okWide Try.prog W .any base t v := hval0
  have hW' := hW
  obtain ⟨p, q, hA0, hV, rfl, hfz, hnd⟩ := hW
  have hA : DataW.TrodAll enc Try.prog W 0 (fun _ => true) true Try.f10.params.toList args.toList ds p := hA0
  rw [Try.params10] at hA hval hsz
  obtain ⟨v0, vs0, d0, ds0, pp0, qq0, hargs, rfl, rfl, hh0, rr0⟩ := trodAll_cons hA
  obtain ⟨v1, vs1, d1, ds1, pp1, qq1, rfl, rfl, rfl, hh1, rr1⟩ := trodAll_cons rr0
  obtain ⟨v2, vs2, d2, ds2, pp2, qq2, rfl, rfl, rfl, hh2, rr2⟩ := trodAll_cons rr1
  obtain ⟨v3, vs3, d3, ds3, pp3, qq3, rfl, rfl, rfl, hh3, rr3⟩ := trodAll_cons rr2
  obtain ⟨v4, vs4, d4, ds4, pp4, qq4, rfl, rfl, rfl, hh4, rr4⟩ := trodAll_cons rr3
  obtain ⟨rfl, rfl, rfl⟩ := trodAll_nil rr4
  obtain rfl : args = #[v0, v1, v2, v3, v4] := by cases args; simp_all
  obtain ⟨rfl, rfl⟩ := trodVars_none hV
  have kk0 := hh0
  have lt0 : ∀ x ∈ pp0, x.block < W.heap.size := by obtain ⟨m, hm⟩ := kk0; exact DataW.trod_lt m _ _ _ hm
  obtain ⟨rm_A, rm, rm_c, rfl, rm_h, rm_s, rm_len, rm_bd⟩ := open_i64s (hval 0 33 v0 rfl rfl) kk0 (fun n hn => of_decide_eq_true (List.all_eq_true.1 hsz n (DataW.weights_mem_each (j := 0) (t := 33) rfl rfl n hn)))
  have kk1 := hh1
  have lt1 : ∀ x ∈ pp1, x.block < W.heap.size := by obtain ⟨m, hm⟩ := kk1; exact DataW.trod_lt m _ _ _ hm
  obtain ⟨ll_A, ll, ll_c, rfl, ll_h, ll_s, ll_len, ll_bd⟩ := open_burners (hval 1 42 v1 rfl rfl) kk1 (fun n hn => of_decide_eq_true (List.all_eq_true.1 hsz n (DataW.weights_mem_each (j := 1) (t := 42) rfl rfl n hn)))
  have kk2 := hh2
  have lt2 : ∀ x ∈ pp2, x.block < W.heap.size := by obtain ⟨m, hm⟩ := kk2; exact DataW.trod_lt m _ _ _ hm
  obtain ⟨ys_A, ys, ys_c, rfl, ys_h, ys_s, ys_len, ys_bd⟩ := open_u8s (hval 2 63 v2 rfl rfl) kk2 (fun n hn => of_decide_eq_true (List.all_eq_true.1 hsz n (DataW.weights_mem_each (j := 2) (t := 63) rfl rfl n hn)))
  have kk3 := hh3
  have lt3 : ∀ x ∈ pp3, x.block < W.heap.size := by obtain ⟨m, hm⟩ := kk3; exact DataW.trod_lt m _ _ _ hm
  obtain ⟨xa, rfl, xab1, xab2⟩ := okInt Try.underlying5 (hval 3 5 v3 rfl rfl)
  have kk4 := hh4
  have lt4 : ∀ x ∈ pp4, x.block < W.heap.size := by obtain ⟨m, hm⟩ := kk4; exact DataW.trod_lt m _ _ _ hm
  obtain ⟨xb, rfl, xbb1, xbb2⟩ := okInt Try.underlying48 (hval 4 48 v4 rfl rfl)
  clear hA0 hval0 hsz0
  refine (Go.Proofs.Ytlcccomdijdkaaa.wormtublaw05_StreamPlans_ok FU rm ll ys xa xb W rm_A rm_c rm_h rm_s ll_A ll_c ll_h ll_s ys_A ys_c ys_h ys_s true (plans_true _ _ _ _ _ ys_bd ys_len ⟨xab1, xab2⟩ ⟨xbb1, xbb2⟩)).mono fun e W' ⟨he, bel⟩ => ?_
  subst he
  exact ⟨_, rfl, _, _, _, [], _, [], hW', trodAll_mk1 (shut_bool Try.underlying4 _), (trodAll_cons_mk (Below.trod laidOut (by kernel_rfl) (of_decide_eq_true (by kernel_rfl)) kk0 bel lt0) (trodAll_cons_mk (Below.trod laidOut (by kernel_rfl) (of_decide_eq_true (by kernel_rfl)) kk1 bel lt1) (trodAll_cons_mk (Below.trod laidOut (by kernel_rfl) (of_decide_eq_true (by kernel_rfl)) kk2 bel lt2) (trodAll_cons_mk (Below.trod laidOut (by kernel_rfl) (of_decide_eq_true (by kernel_rfl)) kk3 bel lt3) (trodAll_cons_mk (Below.trod laidOut (by kernel_rfl) (of_decide_eq_true (by kernel_rfl)) kk4 bel lt4) trodAll_mk0))))), rfl, bel.frame _, fun h => by cases h⟩
theorem over : Rows.streamPlansRow.holds Try.pinned (OpenSpec.ofChange Rows.streamPlansSpec) :=
  OpenClaim.holds_of_wide 10 Try.f10 rfl rfl rfl rfl rfl rfl rfl ⟨rfl, rfl, rfl, rfl, rfl⟩ rfl rfl rfl rfl rfl (by kernel_rfl) Try.func10 (by kernel_rfl)
    (of_decide_eq_true (by kernel_rfl)) (by unfold Func.isWrapper; first | (rw [if_pos (by decide +kernel)]; kernel_rfl) | (rw [if_neg (by decide +kernel)]; exact ⟨rfl, rfl⟩))
    (fun os started H enc _ => lifted os started H enc)
/-- the given statement -/
theorem proved : Rows.StreamPlansSaid := over
end Go.Proofs.Ytlcccomdijdkaaa.streamPlans
