import PyProof.Rows.All
import Wide.All
import OpenK.AllK
import Wide.FinOn
import HandS.ForMost
import HandS.Wide
import HandS.IsInst
import HandS.Codes
import HandS.AnyAll
import HandS.EndTab
import PyProof.GenCompD
import HandS.TupMul
import HandS.TupAny
import HandS.Exc
import HandS.TryOnly
import HandS.ExcOwn
import HandS.WordsExc
import HandS.ExcIs
import KE.DataCmp
import KE.GoesMore
import HandS.Conv
import HandS.Style
import HandS.WideBits
import HandS.Zip
import KE.KRevSl
import KE.GoesEnum
import KE.KDictZip
import PyProof.StrBlock2
import HandS.Sort
import HandS.Deep
import HandS.SortInts
import HandS.More
import KE.DatumOrd
import HandS.NoneIn
import HandS.SetFor
import HandS.Dict
import KE.DataFind
import HandS.Iter
import HandS.TupLe
import HandS.FStr
import HandS.StrMore
import HandS.WrittenGet
import HandS.CallLocal
import HandS.HeadHook3
import HandS.TupSets
import KE.KeyNested
import PySem.Challenge.RW_traymap_k26_one_to_one_or_merged
set_option Elab.async false
set_option linter.all false
set_option maxRecDepth 100000
namespace Tm
open PySem PySem.Spec PyProof.Rows L2
/-! ### what leaves all that stood -/
/-- e gives what R says, and all that stood is left as it was; whatever frames stand around -/
def Lo (prog : Program) (w : World) (K : PySem.W.Frag) (mg : Str → Option Value) (D : Nat) (env : Env) (hm : Heap → Prop) (e : Expr) (R : Value → Prop) : Prop :=
  ∀ (A : Around) (E : Value → Shared → Prop) (s : Shared), A.handled = none → A.depth ≤ D → Mod K mg s.heap → hm s.heap → wpAny (model prog w) A (eval e env) (fun r t => R r ∧ Keeps s t) E s
section
variable {prog : Program} {w : World} {K : PySem.W.Frag} {mg : Str → Option Value} {D : Nat} {env : Env} {hm : Heap → Prop}
theorem Lo.imp {e : Expr} {R R' : Value → Prop} (h : Lo prog w K mg D env hm e R) (i : ∀ r, R r → R' r) : Lo prog w K mg D env hm e R' := fun A E s h1 h2 h3 h4 =>
  wpAny_mono (h A E s h1 h2 h3 h4) (fun r t q => ⟨i r q.1, q.2⟩) fun _ _ x => x
end
end Tm

namespace Tm
open PySem PySem.Spec PyProof.Rows L2
/-! ### heaps -/
theorem same_upd {H : Hp} {p : Addr} {o : HO} (h : H p = none) : Same H (upd H p o) := fun b x e => by
  rw [upd_ne (ne_of_none e h)]
  exact e
theorem Same.tup {K : PySem.W.Frag} {H H' : Hp} {a : Addr} {xs : List V} (e : Same H H') (h : SqT K H a xs) : SqT K H' a xs := by
  rcases h with (h | ⟨o, h⟩) | h
  · exact .inl (.inl (e _ _ h))
  · exact .inl (.inr ⟨o, e _ _ h⟩)
  · exact .inr h
/-- the source of draws: at p the list of the cells' list at l, a number held and a seed -/
def Sc (p l : Addr) (H : Hp) : Prop := p ≠ l ∧ ∃ (ns : List Int) (a b : Int), H p = some (.lst [.ref l, .int a, .int b]) ∧ H l = some (.lst (ns.map V.int)) ∧ 0 ≤ a ∧ 0 ≤ b ∧ b < 998244353
/-- but for p and l all that was tracked is as it was -/
def Kp (p l : Addr) (H H' : Hp) : Prop := ∀ b o, b ≠ p → b ≠ l → H b = some o → H' b = some o
theorem Kp.refl {p l : Addr} (H : Hp) : Kp p l H H := fun _ _ _ _ e => e
theorem Kp.trans {p l : Addr} {H H1 H2 : Hp} (a : Kp p l H H1) (b : Kp p l H1 H2) : Kp p l H H2 := fun c o h1 h2 e => b c o h1 h2 (a c o h1 h2 e)
theorem Kp.upd {p l q : Addr} {o : HO} {H H1 : Hp} (a : Kp p l H H1) (h : H1 q = none) : Kp p l H (L2.upd H1 q o) := fun c u h1 h2 e => same_upd h c u (a c u h1 h2 e)
theorem Sc.upd {p l q : Addr} {o : HO} {H : Hp} (a : Sc p l H) (h : H q = none) : Sc p l (L2.upd H q o) := by
  obtain ⟨n, ns, x, y, e1, e2, r⟩ := a
  exact ⟨n, ns, x, y, same_upd h _ _ e1, same_upd h _ _ e2, r⟩
theorem Sc.same {p l : Addr} {H H' : Hp} (a : Sc p l H) (h : Same H H') : Sc p l H' := by
  obtain ⟨n, ns, x, y, e1, e2, r⟩ := a
  exact ⟨n, ns, x, y, h _ _ e1, h _ _ e2, r⟩
theorem Kp.of_same {p l : Addr} {H H' : Hp} (h : Same H H') : Kp p l H H' := fun b o _ _ e => h b o e
theorem Sc.ne {p l b : Addr} {H : Hp} (a : Sc p l H) (h : H b = none) : b ≠ p ∧ b ≠ l := by
  obtain ⟨n, ns, x, y, e1, e2, r⟩ := a
  exact ⟨(ne_of_none e1 h).symm, (ne_of_none e2 h).symm⟩
/-- what was free behind is free ahead -/
theorem Kp.free {p l b : Addr} {H H' : Hp} (k : Kp p l H H') (a : Sc p l H') (h : H' b = none) : H b = none := by
  cases q : H b with
  | none => rfl
  | some o =>
    have n := a.ne h
    rw [k b o n.1 n.2 q] at h
    cases h
end Tm

namespace Tm
open PySem PySem.Spec PyProof.Rows L2
/-! ### < of data at any depth -/
/-! ### (a, ..) * k for k = 0 and 1 too -/
theorem tup_mul1 (l : Addr) (items : Array Value) (n : Nat) (dd : Option Addr) (sl : Array (Option Value)) (u : Tok) :
    Meets (Builtin.«tuple.__mul__» ⟨[.ref l, .int 1 u], []⟩) (fun _ R s => s.heap.get? l = some { cls := .type "tuple", dict := dd, data := .seq items n, slots := sl } ∧ R (.ok (.ret (.ref l))) s) :=
  .of_wp fun prog w A R s h => by
    obtain ⟨hp, g, d, tk, os⟩ := s
    obtain ⟨hl, h⟩ := h
    have f1 := AutoSeq1.idx_int
    wp_walk using AutoSeq1.wpAny_loadPart' hl
    repeat (first
      | (refine wpAny_ite_true (decide_eq_true (by simp)) ?_; wp_walk using AutoSeq1.wpAny_loadPart' hl)
      | (refine wpAny_ite_false (decide_eq_false (by simp)) ?_; wp_walk using AutoSeq1.wpAny_loadPart' hl))
    exact ⟨_, rfl, h⟩
theorem tup_mul0 (l : Addr) (items : Array Value) (n : Nat) (dd : Option Addr) (sl : Array (Option Value)) (u : Tok) (hne : items.isEmpty = false) :
    Meets (Builtin.«tuple.__mul__» ⟨[.ref l, .int 0 u], []⟩) (fun _ R s => s.heap.get? l = some { cls := .type "tuple", dict := dd, data := .seq items n, slots := sl } ∧
      R (.ok (.ret (.ref s.heap.objs.size))) { s with heap := s.heap.push { cls := .type "tuple", data := .seq #[] }, toks := s.toks }) :=
  .of_wp fun prog w A R s h => by
    obtain ⟨hp, g, d, tk, os⟩ := s
    obtain ⟨hl, h⟩ := h
    have f1 := AutoSeq1.idx_int
    wp_walk using AutoSeq1.wpAny_loadPart' hl
    repeat (first
      | (refine wpAny_ite_false (decide_eq_false (by simp [hne])) ?_; wp_walk using AutoSeq1.wpAny_loadPart' hl)
      | (refine wpAny_ite_true (decide_eq_true (by simp)) ?_; wp_walk using AutoSeq1.wpAny_loadPart' hl))
    exact ⟨_, rfl, h⟩
def rRepA (K : PySem.W.Frag) : R2 := fun x y H Q => ∃ l k xs, x = .ref l ∧ y = .int k ∧ SqT K H l xs ∧ xs ≠ [] ∧ 0 ≤ k ∧ k ≤ 1000 ∧ xs.length ≤ 1000 ∧ (k = 1 → Q (.ref l) H) ∧ (k ≠ 1 → ∀ p, H p = none → Q (.ref p) (upd H p (.tup (List.replicate k.toNat xs).flatten)))
theorem op_repA {X : Cx} : OpR X (binaryOp .Mult) (rRepA X.K) := by
  intro pins s σ H x y v u Q I rx ry h
  obtain ⟨l, k, xs, ex, ey, hT, hne, h0, h1, hz, q1, q2⟩ := h
  by_cases hk : 2 ≤ k
  · exact op_repT pins s σ H x y v u Q I rx ry ⟨l, k, xs, ex, ey, hT, hne, hk, h1, hz, q2 (by omega)⟩
  · subst ex ey
    cases rx
    obtain ⟨t, rfl⟩ := ry
    obtain ⟨its, r, ⟨⟨cls, dd, data, sl⟩, ho, hc, n, hd⟩, hs⟩ := I.tuple hT
    simp only at hc hd
    subst hc hd
    have hi : its.toArray.isEmpty = false := by
      cases its with
      | nil => exact absurd (List.eq_nil_of_length_eq_zero r.length) hne
      | cons a b => rfl
    rcases (show k = 0 ∨ k = 1 by omega) with rfl | rfl
    · refine wpAny_binaryOp_repeat_ref (T := "tuple") (U := "int") (by decide) ⟨_, ho, rfl⟩ (fun s' => typeIs_int s' 0 t) noFill_tuple_mul F.fills_int_mul F.slot_int_rmul repeat_tuple F.slot_int_index.lookup
        (call_meets F.slot_int_rmul (typeIs_int s 0 t) F.entry_int_rmul (F.args_int_rmul_2 _ _) (int_rmul_tuple 0 t l its.toArray n dd sl)
          ⟨ho, rfl, ⟨_, ho, rfl⟩, call_meets F.slot_tuple_mul ⟨_, ho, rfl⟩ F.entry_tuple_mul (F.args_tuple_mul_2 _ _) (tup_mul0 l its.toArray n dd sl t hi) ⟨ho, ?_⟩⟩)
      refine ⟨.ref s.heap.objs.size, _, I.laid (t' := s.toks) (o := .tup (List.replicate (0 : Int).toNat xs).flatten) (fun b ob q => Heap.get?_push_of_some _ q) (Nat.le_refl _) ?_, rfl, q2 (by decide) _ (I.hok.fresh (Nat.le_refl _))⟩
      exact ⟨Nat.zero_le _, [], .nil, IsTup.new _ _⟩
    · exact wpAny_binaryOp_repeat_ref (T := "tuple") (U := "int") (by decide) ⟨_, ho, rfl⟩ (fun s' => typeIs_int s' 1 t) noFill_tuple_mul F.fills_int_mul F.slot_int_rmul repeat_tuple F.slot_int_index.lookup
        (call_meets F.slot_int_rmul (typeIs_int s 1 t) F.entry_int_rmul (F.args_int_rmul_2 _ _) (int_rmul_tuple 1 t l its.toArray n dd sl)
          ⟨ho, rfl, ⟨_, ho, rfl⟩, call_meets F.slot_tuple_mul ⟨_, ho, rfl⟩ F.entry_tuple_mul (F.args_tuple_mul_2 _ _) (tup_mul1 l its.toArray n dd sl t) ⟨ho, ⟨.ref l, H, I, rfl, q1 rfl⟩⟩⟩)
/-! ### isinstance of the error that a suite holds -/
/-! ### for i, x in enumerate(t), t a tuple -/
theorem enum_new {v : Value} {o : Obj} {Hv : Heap → Prop} (B : Begins v o Hv) :
    Meets (Builtin.«enumerate.__new__» ⟨[.type "enumerate", v], []⟩) (fun _ R s => Hv s.heap ∧
      R (.ok (.ret (.ref (s.heap.push o).objs.size))) { s with heap := (s.heap.push o).push { cls := .type "enumerate", data := .fields #[.none, .bool false, .ref s.heap.objs.size, rawInt 0, .none, .none] } }) :=
  .of_wp fun prog w A R s h => by
    obtain ⟨hp, g, d, tk, os⟩ := s
    obtain ⟨hv, h⟩ := h
    have hsub := sub_enumerate
    have q1 : ∀ {A1 : Around} {E1 : Value → Shared → Prop} {Q1 : Value → Shared → Prop}, Q1 (.ref hp.objs.size) ⟨hp.push o, g, d, tk, os⟩ → wpAny (model prog w) A1 (pyIter v) Q1 E1 ⟨hp, g, d, tk, os⟩ := fun q => B.iter prog w _ _ ⟨hp, g, d, tk, os⟩ _ hv q
    wp_walk using q1
    refine wpAny_stack_any fun st => wpAny_pure ?_
    split
    · rename_i c _ _ _ _ _
      cases (c == Value.type "enumerate") <;> (wp_walk using q1; exact ⟨_, rfl, h⟩)
    · wp_walk using q1
      exact ⟨_, rfl, h⟩
theorem call_enumT {prog : Program} {w : World} {A : Around} {E : Value → Shared → Prop} {s : Shared} {t : Addr} {items : Array Value} {Q : Value → Shared → Prop} (ht : s.heap.IsTuple t items)
    (h : ∀ h', IsEnum h' (s.heap.objs.size + 1) s.heap.objs.size 0 .none → h'.IsTupleIter s.heap.objs.size t 0 → (∀ b o, s.heap.get? b = some o → h'.get? b = some o) → Q (.ref (s.heap.objs.size + 1)) { s with heap := h' }) :
    wpAny (model prog w) A (call (.type "enumerate") [.ref t]) Q E s := by
  refine callType_new F.called_enumerate (by decide) (F.typeCall_enumerate_1 _) (F.newCall_enumerate_1 _) (fun obj => F.args_object_init_2 obj _) F.entry_enumerate_new (enum_new (begins_tuple t items)) ⟨ht, ?_⟩
  generalize eo : ({ cls := .type "tuple_iterator", data := .fields #[.ref t, .int 0 0] } : Obj) = o
  have hz : (s.heap.push o).objs.size = s.heap.objs.size + 1 := Heap.size_push ..
  have fo : o.isFreed = false := by rw [← eo]; rfl
  have he : IsEnum ((s.heap.push o).push { cls := .type "enumerate", data := .fields #[.none, .bool false, .ref s.heap.objs.size, rawInt 0, .none, .none] }) (s.heap.objs.size + 1) s.heap.objs.size 0 .none := by
    have q := Heap.get?_push_size (s.heap.push o) (o := { cls := .type "enumerate", data := .fields #[.none, .bool false, .ref s.heap.objs.size, rawInt 0, .none, .none] }) rfl
    rw [hz] at q
    exact q
  have hi : ((s.heap.push o).push { cls := .type "enumerate", data := .fields #[.none, .bool false, .ref s.heap.objs.size, rawInt 0, .none, .none] }).IsTupleIter s.heap.objs.size t 0 := by
    refine ⟨o, Heap.get?_push_of_some _ (Heap.get?_push_size _ fo), ?_, ?_⟩
    · rw [← eo]
    · rw [← eo]
      rfl
  show _ ∧ _
  rw [hz]
  exact ⟨⟨_, he, rfl⟩, h _ he hi fun b u x => Heap.get?_push_of_some _ (Heap.get?_push_of_some _ x)⟩
def ItE (K : PySem.W.Frag) (a : Addr) : It :=
  ⟨fun i H => ∃ (xs : List V) (x : V), SqT K H a xs ∧ xs[i]? = some x, fun i H v H' => ∃ T x, v = .ref T ∧ H T = none ∧ H' = upd H T (.tup [.int (i : Nat), x]) ∧ ∀ xs, SqT K H a xs → xs[i]? = some x, fun i H => ∃ xs : List V, SqT K H a xs ∧ xs.length ≤ i⟩
theorem turn_enumT {P : Program} {w : World} {K : PySem.W.Frag} {elts : List Expr} {kk : Nat} {tpos : Pos} (a e it : Addr) (hea : e ≠ a) (hia : a ≠ it) (hne : e ≠ it) :
    Turn P w K (.Tuple elts kk tpos) (ItE K a) [e, it] e (fun i h => (∃ old, IsEnum h e it ((i : Nat) : Int) old) ∧ h.IsTupleIter it a i) where
  mem := by simp
  obj := fun i h st b hb => by
    obtain ⟨⟨old, he⟩, ⟨o, ho, hc, hd⟩⟩ := st
    simp only [List.mem_cons, List.not_mem_nil, or_false] at hb
    rcases hb with rfl | rfl
    · exact ⟨_, he, fun v q => nomatch q⟩
    · exact ⟨o, ho, fun v q => by rw [hd] at q; cases q⟩
  keep := fun i h h' st k => let ⟨⟨old, he⟩, hi⟩ := st; ⟨⟨old, k e (by simp) _ he⟩, hi.at fun o q => k it (by simp) o q⟩
  item := by
    intro X hP hw hK hc i pins s σ H E I hf st hg
    subst hP hw hK
    obtain ⟨⟨old, he⟩, hit⟩ := st
    obtain ⟨xs, x, hq, hx⟩ := hg
    obtain ⟨its, rv, p, hz⟩ := I.tuple hq
    obtain ⟨u, hu, ru⟩ := rv.get hx
    have hel : e < s.heap.objs.size := Heap.lt_size he
    have hil : it < s.heap.objs.size := by
      obtain ⟨_, q, _⟩ := hit
      exact Heap.lt_size q
    have hlt : i < its.toArray.size := by
      rw [List.size_toArray]
      exact (List.getElem?_eq_some_iff.mp hu).1
    have hfp : e ∉ [it, a] := fun z => by
      simp only [List.mem_cons, List.not_mem_nil, or_false] at z
      rcases z with z | z
      · exact hne z
      · exact hea z
    refine wpAny_pyNext_enum_itemD (Draws.tuple (A := X.A.in1) (I.ok.hd hc) it a hia its.toArray) he ⟨hit, p⟩ hlt hne hfp fun y h' tk hy ho hst hT hsz hk => ?_
    have ey : y = u := by
      have z : its.toArray[i]? = some y := hy
      rw [show its.toArray[i]? = its[i]? by simp, hu] at z
      exact (Option.some.inj z).symm
    subst ey
    refine ⟨_, rfl, wpAny_letOwnedTupleGo_enum (s := { s with heap := h', toks := tk + 1 }) ho fun h2 he' sb => ?_⟩
    have hT2 : h2.get? s.heap.objs.size = some { cls := .type "tuple", data := .seq #[.int i tk, y] } := (sb.2 _ (Nat.ne_of_gt hel)).trans hT
    have new : ObjOk X.prog X.w (upd H s.heap.objs.size (.tup [.int (i : Nat), x])) h2 s.heap.objs.size (.tup [.int (i : Nat), x]) :=
      ⟨(show 2 ≤ sizeLine by decide), [.int i tk, y], .cons ⟨_, rfl⟩ (.cons ru .nil), ⟨_, hT2, rfl, _, rfl⟩⟩
    have I1 : Inv X pins σ (upd H s.heap.objs.size (.tup [.int (i : Nat), x])) { s with heap := h2, toks := tk + 1 } := by
      refine I.turnedNew (ch := [e, it]) (fun b ob hb q => ?_) hf (Nat.le_refl _) new
      have n1 : b ≠ e := fun z => hb (by simp [z])
      have n2 : b ≠ it := fun z => hb (by simp [z])
      exact (sb.2 b n1).trans (hk b ob n1 n2 q)
    refine ⟨.ref s.heap.objs.size, _, I1, rfl, ⟨_, x, rfl, I.hok.fresh (Nat.le_refl _), rfl, fun ys hy => by rw [I.tuple_inj hy hq]; exact hx⟩, ⟨⟨y, ?_⟩, hst.1.at fun o q => (sb.2 it (Ne.symm hne)).trans q⟩, fun b hb => ?_⟩
    · rw [show ((i + 1 : Nat) : Int) = (i : Int) + 1 by omega]
      exact he'
    · have hl : b < s.heap.objs.size := by
        simp only [List.mem_cons, List.not_mem_nil, or_false] at hb
        rcases hb with rfl | rfl
        · exact hel
        · exact hil
      rw [upd_ne (Nat.ne_of_lt hl)]
      exact (hf b hb).1
  done := by
    intro X hP hw hK hc i pins s σ H E I hf st hg
    subst hP hw hK
    obtain ⟨⟨old, he⟩, hit⟩ := st
    obtain ⟨xs, hq, hx⟩ := hg
    obtain ⟨its, rv, p, hz⟩ := I.tuple hq
    obtain ⟨f0, f1, f2, f3, f4, f5⟩ := hf it (by simp)
    have hl := rv.length
    have D : Draws X.prog X.w X.A.in1 it [it, a] i (fun _ _ => True) (fun j h => j = i ∧ h.IsTupleIter it a i ∧ h.IsTuple a its.toArray) :=
      { live := fun _ _ st => let ⟨o, ho, _⟩ := st.2.1; ⟨o, ho⟩
        frame := fun _ _ _ st k => ⟨st.1, st.2.1.at fun o q => k it (by simp) o q, st.2.2.at fun o q => k a (by simp) o q⟩
        item := fun j s Q E hj st _ => absurd st.1 (Nat.ne_of_lt hj)
        done := fun s Q E st hE => wpAny_nextOf_tuple_end (I.ok.hd hc) st.2.1 st.2.2 (by simp; omega) hE }
    exact wpAny_pyNext_enum_endD D he ⟨rfl, hit, p⟩ fun h' eb => ⟨rfl, I.turned (t' := s.toks) (fun b o hb q => eb b o hb q) f0 f1 f3 f4 f5⟩
  self := fun A i s Q E st h => let ⟨⟨_, he⟩, _⟩ := st; wpAny_pyIter_enum he h
/-! ### the mathematics: all fillings, in order -/
def cnt (n : Int) (ws : List Int) : Int := (ws.map fun x => n ^ x.toNat).sum
theorem cnt_take {n : Int} {ws : List Int} {i : Nat} {x : Int} (h : ws[i]? = some x) : cnt n (ws.take (i + 1)) = cnt n (ws.take i) + n ^ x.toNat := by
  unfold cnt
  rw [List.map_take, List.map_take]
  refine sum_take ?_
  rw [List.getElem?_map, h]
  rfl
theorem cnt_nonneg {n : Int} (h : 0 ≤ n) : ∀ ws : List Int, 0 ≤ cnt n ws
  | [] => Int.le_refl 0
  | x :: r => by
    have ih := cnt_nonneg h r
    have h1 : 0 ≤ n ^ x.toNat := Int.pow_nonneg h
    show 0 ≤ (n ^ x.toNat :: r.map fun x => n ^ x.toNat).sum
    rw [List.sum_cons]
    exact Int.add_nonneg h1 ih
theorem cnt_app (n : Int) (a b : List Int) : cnt n (a ++ b) = cnt n a + cnt n b := by
  unfold cnt
  rw [List.map_append, List.sum_append]
theorem cnt_take_le {n : Int} (h : 0 ≤ n) (ws : List Int) (i : Nat) : cnt n (ws.take i) ≤ cnt n ws := by
  have e : cnt n ws = cnt n (ws.take i) + cnt n (ws.drop i) := by rw [← cnt_app, List.take_append_drop]
  have := cnt_nonneg h (ws.drop i)
  omega
theorem cnt_term {n : Int} (h : 0 ≤ n) {ws : List Int} {i : Nat} {x : Int} (e : ws[i]? = some x) : n ^ x.toNat ≤ cnt n ws := by
  have h1 := cnt_take (n := n) e
  have h2 := cnt_take_le h ws (i + 1)
  have h3 := cnt_nonneg h (ws.take i)
  omega
/-- all rows of w things below n, rising -/
def rows (n : Nat) : Nat → List (List Int)
  | 0 => [[]]
  | w + 1 => (rows n w).flatMap fun r => (List.range n).map fun (t : Nat) => r ++ [(t : Int)]
theorem rows_len (n : Nat) : ∀ w, (rows n w).length = n ^ w
  | 0 => rfl
  | w + 1 => by
    have ih := rows_len n w
    rw [rows, List.length_flatMap]
    have e : (List.map (fun a => ((List.range n).map fun (t : Nat) => a ++ [(t : Int)]).length) (rows n w)) = List.replicate (rows n w).length n := by
      rw [List.eq_replicate_iff]
      refine ⟨by rw [List.length_map], fun b hb => ?_⟩
      obtain ⟨a, _, rfl⟩ := List.mem_map.mp hb
      rw [List.length_map, List.length_range]
    rw [e, List.sum_replicate_nat, ih, Nat.pow_succ]
theorem rows_mem {n : Nat} : ∀ {w : Nat} {r : List Int}, r ∈ rows n w → r.length = w ∧ ∀ x ∈ r, 0 ≤ x ∧ x < (n : Int)
  | 0, r, h => by
    rw [List.mem_singleton.mp h]
    exact ⟨rfl, fun x hx => by cases hx⟩
  | w + 1, r, h => by
    obtain ⟨a, ha, hr⟩ := List.mem_flatMap.mp h
    obtain ⟨t, ht, rfl⟩ := List.mem_map.mp hr
    obtain ⟨h1, h2⟩ := rows_mem ha
    refine ⟨by rw [List.length_append, h1]; rfl, fun x hx => ?_⟩
    rcases List.mem_append.mp hx with hx | hx
    · exact h2 x hx
    · rw [List.mem_singleton.mp hx]
      have := List.mem_range.mp ht
      omega
def LtL : List Int → List Int → Prop
  | a :: as, b :: bs => a < b ∨ (a = b ∧ LtL as bs)
  | _, _ => False
theorem ltl_app : ∀ {a b : List Int} (c d : List Int), LtL a b → LtL (a ++ c) (b ++ d)
  | x :: xs, y :: ys, c, d, h => by
    rcases h with h | ⟨h1, h2⟩
    · exact .inl h
    · exact .inr ⟨h1, ltl_app c d h2⟩
theorem ltl_last : ∀ (a : List Int) {x y : Int}, x < y → LtL (a ++ [x]) (a ++ [y])
  | [], x, y, h => .inl h
  | z :: zs, x, y, h => .inr ⟨rfl, ltl_last zs h⟩
theorem rows_sorted (n : Nat) : ∀ w, (rows n w).Pairwise LtL
  | 0 => List.pairwise_singleton _ _
  | w + 1 => by
    rw [rows, List.pairwise_flatMap]
    refine ⟨fun r _ => ?_, (rows_sorted n w).imp fun {a b} h x hx y hy => ?_⟩
    · rw [List.pairwise_map]
      exact List.pairwise_lt_range.imp fun {i j} h => ltl_last r (by omega)
    · obtain ⟨i, _, rfl⟩ := List.mem_map.mp hx
      obtain ⟨j, _, rfl⟩ := List.mem_map.mp hy
      exact ltl_app _ _ h
def one (n : Nat) (ws : List Int) (j : Nat) : List (Int × List Int) := (rows n ((ws.getD j 0).toNat)).map fun r => ((j : Int), r)
/-- the fillings of the first i trays -/
def fills (n : Nat) (ws : List Int) (i : Nat) : List (Int × List Int) := (List.range i).flatMap (one n ws)
theorem fills_succ (n : Nat) (ws : List Int) (i : Nat) : fills n ws (i + 1) = fills n ws i ++ one n ws i := by
  unfold fills
  rw [List.range_succ, List.flatMap_append]
  simp
theorem fills_len {n : Nat} {ws : List Int} : ∀ {i : Nat}, i ≤ ws.length → ((fills n ws i).length : Int) = cnt (n : Int) (ws.take i)
  | 0, _ => by
    rw [List.take_zero]
    rfl
  | i + 1, h => by
    have ih := fills_len (n := n) (ws := ws) (i := i) (by omega)
    have g : ws[i]? = some ws[i] := List.getElem?_eq_getElem (by omega)
    rw [fills_succ, List.length_append, cnt_take g]
    unfold one
    rw [List.length_map, rows_len, List.getD_eq_getElem?_getD, g]
    show (((fills n ws i).length + n ^ ws[i].toNat : Nat) : Int) = _
    rw [Int.natCast_add, ih, Int.natCast_pow]
def LtP (a b : Int × List Int) : Prop := a.1 < b.1 ∨ (a.1 = b.1 ∧ LtL a.2 b.2)
theorem fills_sorted (n : Nat) (ws : List Int) (i : Nat) : (fills n ws i).Pairwise LtP := by
  unfold fills
  rw [List.pairwise_flatMap]
  refine ⟨fun j _ => ?_, List.pairwise_lt_range.imp fun {a b} h x hx y hy => ?_⟩
  · unfold one
    rw [List.pairwise_map]
    exact (rows_sorted n _).imp fun h => .inr ⟨rfl, h⟩
  · obtain ⟨r, _, rfl⟩ := List.mem_map.mp hx
    obtain ⟨q, _, rfl⟩ := List.mem_map.mp hy
    exact .inl (show (a : Int) < (b : Int) by omega)
theorem fills_mem {n : Nat} {ws : List Int} {i : Nat} {p : Int × List Int} (hi : i ≤ ws.length) (hw : ∀ x ∈ ws, 0 ≤ x ∧ x ≤ 12) (h : p ∈ fills n ws i) : 0 ≤ p.1 ∧ p.1 < (ws.length : Int) ∧ ws[p.1.toNat]? = some ((p.2.length : Nat) : Int) ∧ ∀ x ∈ p.2, 0 ≤ x ∧ x < (n : Int) := by
  obtain ⟨j, hj, hp⟩ := List.mem_flatMap.mp h
  have hj' := List.mem_range.mp hj
  obtain ⟨r, hr, rfl⟩ := List.mem_map.mp hp
  obtain ⟨h1, h2⟩ := rows_mem hr
  have g : ws[j]? = some ws[j] := List.getElem?_eq_getElem (by omega)
  have hb := hw ws[j] (List.getElem_mem _)
  refine ⟨by omega, by show (j : Int) < _; omega, ?_, h2⟩
  show ws[((j : Int)).toNat]? = some ((r.length : Nat) : Int)
  rw [h1, List.getD_eq_getElem?_getD, g, Int.toNat_natCast]
  rw [g]
  congr 1
  show ws[j] = ((ws[j].toNat : Nat) : Int)
  omega
/-! ### < of pairs as the model has it -/
def dPair (p : Int × List Int) : PyData := .tuple [.int p.1, .tuple (p.2.map PyData.int)]
theorem eqv_ints_ne {a b : Int} (h : a ≠ b) : PyData.eqv (.int a) (.int b) = false := by
  simp only [PyData.eqv]
  exact beq_eq_false_iff_ne.mpr h
theorem eqv_int (a : Int) : PyData.eqv (.int a) (.int a) = true := by
  simp only [PyData.eqv]
  exact beq_self_eq_true a
end Tm

namespace Tm
open PySem PySem.Spec PyProof.Rows L2
/-- what H says of tuples H' says too -/
def KeepT (H H' : Hp) : Prop := ∀ a ys, H a = some (.tup ys) → H' a = some (.tup ys)
theorem KeepT.of_same {H H' : Hp} (h : Same H H') : KeepT H H' := fun a ys e => h a _ e
theorem keep_lst {H : Hp} {D : Addr} {acc acc' : List V} (h : H D = some (.lst acc)) : KeepT H (upd H D (.lst acc')) := fun a ys e => by
  rw [upd_ne (ne_of e h (fun z => by cases z))]
  exact e
/-- xs are tuples of the rows rs -/
def Tups (H : Hp) (xs : List V) (rs : List (List Int)) : Prop := xs.length = rs.length ∧ ∀ (i : Nat) (x : V) (r : List Int), xs[i]? = some x → rs[i]? = some r → ∃ a, x = .ref a ∧ H a = some (.tup (r.map V.int))
theorem Tups.keep {H H' : Hp} {xs : List V} {rs : List (List Int)} (h : Tups H xs rs) (k : KeepT H H') : Tups H' xs rs := ⟨h.1, fun i x r h1 h2 => by
  obtain ⟨a, e, q⟩ := h.2 i x r h1 h2
  exact ⟨a, e, k _ _ q⟩⟩
theorem Tups.push {H : Hp} {xs : List V} {rs : List (List Int)} {a : Addr} {r : List Int} (h : Tups H xs rs) (e : H a = some (.tup (r.map V.int))) : Tups H (xs ++ [.ref a]) (rs ++ [r]) := by
  refine ⟨by rw [List.length_append, List.length_append, h.1]; rfl, fun i x q h1 h2 => ?_⟩
  by_cases hi : i < xs.length
  · rw [List.getElem?_append_left hi] at h1
    rw [List.getElem?_append_left (by rw [← h.1]; exact hi)] at h2
    exact h.2 i x q h1 h2
  · have hlt : i < (xs ++ [V.ref a]).length := (List.getElem?_eq_some_iff.mp h1).1
    rw [List.length_append] at hlt
    have ei : i = xs.length := by
      have : ([V.ref a] : List V).length = 1 := rfl
      omega
    subst ei
    rw [List.getElem?_append_right (Nat.le_refl _), Nat.sub_self] at h1
    rw [h.1, List.getElem?_append_right (Nat.le_refl _), Nat.sub_self] at h2
    cases h1
    cases h2
    exact ⟨a, rfl, e⟩
/-- xs are pairs of a tray's number and a tuple of things -/
def Pairs (H : Hp) (xs : List V) (fs : List (Int × List Int)) : Prop := xs.length = fs.length ∧ ∀ (i : Nat) (x : V) (p : Int × List Int), xs[i]? = some x → fs[i]? = some p → ∃ a b, x = .ref a ∧ H a = some (.tup [.int p.1, .ref b]) ∧ H b = some (.tup (p.2.map V.int))
theorem Pairs.keep {H H' : Hp} {xs : List V} {fs : List (Int × List Int)} (h : Pairs H xs fs) (k : KeepT H H') : Pairs H' xs fs := ⟨h.1, fun i x r h1 h2 => by
  obtain ⟨a, b, e, q1, q2⟩ := h.2 i x r h1 h2
  exact ⟨a, b, e, k _ _ q1, k _ _ q2⟩⟩
theorem Pairs.push {H : Hp} {xs : List V} {fs : List (Int × List Int)} {a b : Addr} {p : Int × List Int} (h : Pairs H xs fs) (e : H a = some (.tup [.int p.1, .ref b])) (e2 : H b = some (.tup (p.2.map V.int))) : Pairs H (xs ++ [.ref a]) (fs ++ [p]) := by
  refine ⟨by rw [List.length_append, List.length_append, h.1]; rfl, fun i x q h1 h2 => ?_⟩
  by_cases hi : i < xs.length
  · rw [List.getElem?_append_left hi] at h1
    rw [List.getElem?_append_left (by rw [← h.1]; exact hi)] at h2
    exact h.2 i x q h1 h2
  · have hlt : i < (xs ++ [V.ref a]).length := (List.getElem?_eq_some_iff.mp h1).1
    rw [List.length_append] at hlt
    have ei : i = xs.length := by
      have : ([V.ref a] : List V).length = 1 := rfl
      omega
    subst ei
    rw [List.getElem?_append_right (Nat.le_refl _), Nat.sub_self] at h1
    rw [h.1, List.getElem?_append_right (Nat.le_refl _), Nat.sub_self] at h2
    cases h1
    cases h2
    exact ⟨a, b, rfl, e, e2⟩
theorem Kp.get {p l b : Addr} {o : HO} {H H' : Hp} (k : Kp p l H H') (n : b ≠ p ∧ b ≠ l) (e : H b = some o) : H' b = some o := k b o n.1 n.2 e
theorem Kp.keepT {p l : Addr} {H H' : Hp} (S : Sc p l H) (k : Kp p l H H') : KeepT H H' := by
  obtain ⟨n, ns, a, b, e1, e2, _⟩ := S
  exact fun c ys e => k c _ (ne_of e e1 (fun z => by cases z)) (ne_of e e2 (fun z => by cases z)) e
theorem KeepT.trans {H H1 H2 : Hp} (a : KeepT H H1) (b : KeepT H1 H2) : KeepT H H2 := fun c ys e => b c ys (a c ys e)
/-- the source's records where another list is changed -/
theorem Sc.lst {p l D : Addr} {xs : List V} {H : Hp} (S : Sc p l H) (n : D ≠ p ∧ D ≠ l) : Sc p l (L2.upd H D (.lst xs)) := by
  obtain ⟨n', ns, a, b, e1, e2, r⟩ := S
  refine ⟨n', ns, a, b, ?_, ?_, r⟩
  · rw [upd_ne n.1.symm]
    exact e1
  · rw [upd_ne n.2.symm]
    exact e2
/-- a list that is new against H is changed -/
theorem Kp.lst {p l D : Addr} {xs : List V} {H H' : Hp} (k : Kp p l H H') (f : H D = none) : Kp p l H (L2.upd H' D (.lst xs)) := fun b o h1 h2 e => by
  rw [upd_ne (ne_of_none e f)]
  exact k b o h1 h2 e
/-! ### ways: a tuple of pairs of a number and a tuple of numbers -/
def Way (H : Hp) (a : Addr) (wy : List (Int × List Int)) : Prop := ∃ xs, H a = some (.tup xs) ∧ Pairs H xs wy
theorem Way.keep {H H' : Hp} {a : Addr} {wy : List (Int × List Int)} (h : Way H a wy) (k : KeepT H H') : Way H' a wy := by
  obtain ⟨xs, e, p⟩ := h
  exact ⟨xs, k _ _ e, p.keep k⟩
/-- wy is a way from ws to us -/
def WayOk (ws us : List Int) (wy : List (Int × List Int)) : Prop := wy.length = ws.length ∧ ∀ (i : Nat) (p : Int × List Int) (x : Int), wy[i]? = some p → ws[i]? = some x → 0 ≤ p.1 ∧ p.1 < (us.length : Int) ∧ us[p.1.toNat]? = some ((p.2.length : Nat) : Int) ∧ ∀ y ∈ p.2, 0 ≤ y ∧ y < x
/-! ### things at any depth, none of their lists the source's -/
mutual
inductive Dq (N : Addr → Prop) (H : Hp) : V → PyData → Prop
  | non : Dq N H .non .none
  | bl (b : Bool) : Dq N H (.bl b) (.bool b)
  | int (i : Int) : Dq N H (.int i) (.int i)
  | str (x : Str) : Dq N H (.str x) (.str x)
  | lst {a : Addr} {xs : List V} {ds : List PyData} : H a = some (.lst xs) → ¬ N a → DqAll N H xs ds → Dq N H (.ref a) (.list ds)
  | tup {a : Addr} {xs : List V} {ds : List PyData} : H a = some (.tup xs) → DqAll N H xs ds → Dq N H (.ref a) (.tuple ds)
inductive DqAll (N : Addr → Prop) (H : Hp) : List V → List PyData → Prop
  | nil : DqAll N H [] []
  | cons {v : V} {vs : List V} {d : PyData} {ds : List PyData} : Dq N H v d → DqAll N H vs ds → DqAll N H (v :: vs) (d :: ds)
end
/-- what is no record of the source's stays -/
def KeepD (N : Addr → Prop) (H H' : Hp) : Prop := (∀ a ys, H a = some (.tup ys) → H' a = some (.tup ys)) ∧ ∀ a ys, ¬ N a → H a = some (.lst ys) → H' a = some (.lst ys)
mutual
theorem Dq.keep {N : Addr → Prop} {H H' : Hp} (k : KeepD N H H') : ∀ {v : V} {d : PyData}, Dq N H v d → Dq N H' v d
  | _, _, .non => .non
  | _, _, .bl b => .bl b
  | _, _, .int i => .int i
  | _, _, .str x => .str x
  | _, _, .lst e n h => .lst (k.2 _ _ n e) n (DqAll.keep k h)
  | _, _, .tup e h => .tup (k.1 _ _ e) (DqAll.keep k h)
theorem DqAll.keep {N : Addr → Prop} {H H' : Hp} (k : KeepD N H H') : ∀ {vs : List V} {ds : List PyData}, DqAll N H vs ds → DqAll N H' vs ds
  | _, _, .nil => .nil
  | _, _, .cons a b => .cons (Dq.keep k a) (DqAll.keep k b)
end
mutual
theorem Dq.dp {N : Addr → Prop} {H : Hp} {K : PySem.W.Frag} : ∀ {v : V} {d : PyData}, Dq N H v d → Dp K H v d
  | _, _, .non => .non
  | _, _, .bl b => .bl b
  | _, _, .int i => .int i
  | _, _, .str x => .str x
  | _, _, .lst e _ h => .lst (SqL.of e) (DqAll.dp h)
  | _, _, .tup e h => .tup (SqT.of e) (DqAll.dp h)
theorem DqAll.dp {N : Addr → Prop} {H : Hp} {K : PySem.W.Frag} : ∀ {vs : List V} {ds : List PyData}, DqAll N H vs ds → DpAll K H vs ds
  | _, _, .nil => .nil
  | _, _, .cons a b => .cons (Dq.dp a) (DqAll.dp b)
end
theorem DqAll.len {N : Addr → Prop} {H : Hp} : ∀ {vs : List V} {ds : List PyData}, DqAll N H vs ds → vs.length = ds.length
  | _, _, .nil => rfl
  | _, _, .cons _ b => by rw [List.length_cons, List.length_cons, b.len]
theorem DqAll.get {N : Addr → Prop} {H : Hp} : ∀ {vs : List V} {ds : List PyData} {i : Nat} {v : V}, DqAll N H vs ds → vs[i]? = some v → ∃ d, ds[i]? = some d ∧ Dq N H v d
  | _, _, i, _, .nil, h => by simp at h
  | _, _, 0, _, .cons a b, h => by
    cases h
    exact ⟨_, rfl, a⟩
  | _, _, i + 1, _, .cons a b, h => b.get (i := i) h
theorem DqAll.ints {N : Addr → Prop} {H : Hp} : ∀ ns : List Int, DqAll N H (ns.map V.int) (ns.map PyData.int)
  | [] => .nil
  | n :: r => .cons (.int n) (DqAll.ints r)
/-- some datum -/
def Any (N : Addr → Prop) (H : Hp) (v : V) : Prop := ∃ d, Dq N H v d
theorem Any.keep {N : Addr → Prop} {H H' : Hp} {v : V} (h : Any N H v) (k : KeepD N H H') : Any N H' v := let ⟨d, hd⟩ := h; ⟨d, hd.keep k⟩
/-! ### their types -/
def tyD : PyData → String
  | .none => "NoneType"
  | .bool _ => "bool"
  | .int _ => "int"
  | .str _ => "str"
  | .list _ => "list"
  | .tuple _ => "tuple"
  | .dict _ => "dict"
def tupD : PyData → Bool
  | .tuple _ => true
  | _ => false
def intD : PyData → Bool
  | .int _ => true
  | .bool _ => true
  | _ => false
def boolD : PyData → Bool
  | .bool _ => true
  | _ => false
theorem kit_tupD {d : PyData} (h : ∀ kvs, d ≠ .dict kvs) : kitB (tyD d) "tuple" = some (tupD d) := by
  cases d <;> first | decide +kernel | exact absurd rfl (h _) | rfl
theorem kit_intD {d : PyData} (h : ∀ kvs, d ≠ .dict kvs) : kitB (tyD d) "int" = some (intD d) := by
  cases d <;> first | decide +kernel | exact absurd rfl (h _) | rfl
theorem kit_boolD {d : PyData} (h : ∀ kvs, d ≠ .dict kvs) : kitB (tyD d) "bool" = some (boolD d) := by
  cases d <;> first | decide +kernel | exact absurd rfl (h _) | rfl
/-! ### what the source's records leave -/
theorem Kp.keepD {p l : Addr} {N : Addr → Prop} {H H' : Hp} (S : Sc p l H) (k : Kp p l H H') (hp : N p) (hl : N l) : KeepD N H H' := by
  refine ⟨k.keepT S, fun c ys h e => k c _ (fun z => h (by rw [z]; exact hp)) (fun z => h (by rw [z]; exact hl)) e⟩
theorem Same.keepD {N : Addr → Prop} {H H' : Hp} (k : Same H H') : KeepD N H H' := ⟨fun _ _ e => k _ _ e, fun _ _ _ e => k _ _ e⟩
theorem KeepD.trans {N : Addr → Prop} {H H1 H2 : Hp} (a : KeepD N H H1) (b : KeepD N H1 H2) : KeepD N H H2 := ⟨fun c ys e => b.1 c ys (a.1 c ys e), fun c ys h e => b.2 c ys h (a.2 c ys h e)⟩
/-- a list among those that are left out is changed -/
theorem keepD_lst {N : Addr → Prop} {H : Hp} {D : Addr} {xs ys : List V} (e : H D = some (.lst xs)) (n : N D) : KeepD N H (upd H D (.lst ys)) := ⟨keep_lst e, fun a zs h q => by
  rw [upd_ne (fun z => h (by rw [z]; exact n))]
  exact q⟩
mutual
theorem Dq.weak {N N' : Addr → Prop} {H : Hp} (k : ∀ a, N' a → N a) : ∀ {v : V} {d : PyData}, Dq N H v d → Dq N' H v d
  | _, _, .non => .non
  | _, _, .bl b => .bl b
  | _, _, .int i => .int i
  | _, _, .str x => .str x
  | _, _, .lst e n h => .lst e (fun z => n (k _ z)) (DqAll.weak k h)
  | _, _, .tup e h => .tup e (DqAll.weak k h)
theorem DqAll.weak {N N' : Addr → Prop} {H : Hp} (k : ∀ a, N' a → N a) : ∀ {vs : List V} {ds : List PyData}, DqAll N H vs ds → DqAll N' H vs ds
  | _, _, .nil => .nil
  | _, _, .cons a b => .cons (Dq.weak k a) (DqAll.weak k b)
end
theorem Any.weak {N N' : Addr → Prop} {H : Hp} {v : V} (h : Any N H v) (k : ∀ a, N' a → N a) : Any N' H v := let ⟨d, hd⟩ := h; ⟨d, hd.weak k⟩
/-- all that are left out stand already -/
def Told (N : Addr → Prop) (H : Hp) : Prop := ∀ a, N a → H a ≠ none
theorem Told.new {N : Addr → Prop} {H : Hp} {a : Addr} (t : Told N H) (h : H a = none) : ¬ N a := fun z => t a z h
theorem Told.kp {p l : Addr} {N : Addr → Prop} {H H' : Hp} (t : Told N H) (S : Sc p l H') (k : Kp p l H H') : Told N H' := fun a n h => t a n (k.free S h)
theorem Told.upd {N : Addr → Prop} {H : Hp} {a : Addr} {o : HO} (t : Told N H) : Told N (L2.upd H a o) := fun b n h => by
  by_cases e : b = a
  · rw [e, upd_same] at h
    cases h
  · rw [upd_ne e] at h
    exact t b n h
/-! ### what is a way, of any datum -/
def wellD (x : Int) : PyData → Bool
  | .int i => decide (0 ≤ i) && decide (i < x)
  | _ => false
/-- a way as a datum -/
def dWay (wy : List (Int × List Int)) : PyData := .tuple (wy.map dPair)
/-! ### tuples put together and cut, whatever lies in them -/
theorem Told.same {N : Addr → Prop} {H H' : Hp} (t : Told N H) (s : Same H H') : Told N H' := fun a n h => t a n (s.free h)
theorem Any.same {N : Addr → Prop} {H H' : Hp} {v : V} (h : Any N H v) (s : Same H H') : Any N H' v := h.keep (Same.keepD s)
/-! ### the data of a way -/
/-! ### heaps that grow by things -/
def AnyL (N : Addr → Prop) (H : Hp) (xs : List V) : Prop := ∀ x ∈ xs, Any N H x
theorem AnyL.keep {N : Addr → Prop} {H H' : Hp} {xs : List V} (h : AnyL N H xs) (k : KeepD N H H') : AnyL N H' xs := fun x hx => (h x hx).keep k
theorem AnyL.same {N : Addr → Prop} {H H' : Hp} {xs : List V} (h : AnyL N H xs) (s : Same H H') : AnyL N H' xs := h.keep (Same.keepD s)
/-- the source stands, the rest is kept, what is left out stands -/
structure Bu (N : Addr → Prop) (p l : Addr) (H0 H : Hp) : Prop where
  sc : Sc p l H
  kp : Kp p l H0 H
  td : Told N H
theorem Bu.same {N : Addr → Prop} {p l : Addr} {H0 H H' : Hp} (b : Bu N p l H0 H) (s : Same H H') : Bu N p l H0 H' := ⟨b.sc.same s, b.kp.trans (.of_same s), b.td.same s⟩
theorem Bu.free {N : Addr → Prop} {p l a : Addr} {H0 H : Hp} (b : Bu N p l H0 H) (h : H a = none) : H0 a = none := b.kp.free b.sc h
/-- the list made of a way: at M, of n things -/
def Md (N : Addr → Prop) (p l : Addr) (H0 H3 : Hp) (M : Addr) (n : Nat) (H : Hp) : Prop := ∃ xs, H M = some (.lst xs) ∧ xs.length = n ∧ AnyL N H xs ∧ Bu N p l H0 H ∧ KeepT H3 H
theorem Md.same {N : Addr → Prop} {p l M : Addr} {H0 H3 H H' : Hp} {n : Nat} (m : Md N p l H0 H3 M n H) (s : Same H H') : Md N p l H0 H3 M n H' := by
  obtain ⟨xs, e, hn, ha, b, k⟩ := m
  exact ⟨xs, s _ _ e, hn, ha.same s, b.same s, k.trans (.of_same s)⟩
theorem Md.set {N : Addr → Prop} {p l M : Addr} {H0 H3 H : Hp} {n j : Nat} {v : V} {xs : List V} (m : Md N p l H0 H3 M n H) (e : H M = some (.lst xs)) (hM : N M) (nM : M ≠ p ∧ M ≠ l) (f : H0 M = none) (hv : Any N H v) : Md N p l H0 H3 M n (upd H M (.lst (xs.set j v))) := by
  obtain ⟨xs', e', hn, ha, b, k3⟩ := m
  rw [e] at e'
  cases e'
  have kd : KeepD N H (upd H M (.lst (xs.set j v))) := keepD_lst e hM
  refine ⟨_, upd_same, by rw [List.length_set]; exact hn, fun x hx => ?_, ⟨b.sc.lst nM, b.kp.lst f, b.td.upd⟩, k3.trans (keep_lst e)⟩
  rcases List.mem_or_eq_of_mem_set hx with hx | rfl
  · exact (ha x hx).keep kd
  · exact hv.keep kd
/-- the place ahead, the last one behind nought -/
theorem ahead {n : Nat} {a : Int} (h0 : 0 ≤ a) (h1 : a < (n : Int)) : ∃ j, ixN n (a - 1) = some j ∧ j < n := by
  unfold ixN
  by_cases h : 0 ≤ a - 1
  · rw [if_pos h, if_pos (by omega)]
    exact ⟨_, rfl, by omega⟩
  · rw [if_neg h, if_pos (by omega)]
    exact ⟨_, rfl, by omega⟩
theorem depthAll_cons (d : PyData) (ds : List PyData) : PyData.depthAll (d :: ds) = max (PyData.depth d) (PyData.depthAll ds) := by
  simp [PyData.depthAll]
theorem depthAll_nil : PyData.depthAll [] = 0 := by simp [PyData.depthAll]
theorem depth_tup (ds : List PyData) : PyData.depth (.tuple ds) = PyData.depthAll ds + 1 := by simp [PyData.depth]
theorem depth_lst (ds : List PyData) : PyData.depth (.list ds) = PyData.depthAll ds + 1 := by simp [PyData.depth]
theorem lay_cons (d : PyData) (ds : List PyData) : PyData.canLayAll0 (d :: ds) = (PyData.canLay0 d && PyData.canLayAll0 ds) := by simp [PyData.canLayAll0]
theorem lay_tup (ds : List PyData) : PyData.canLay0 (.tuple ds) = PyData.canLayAll0 ds := by simp [PyData.canLay0]
theorem lay_lst (ds : List PyData) : PyData.canLay0 (.list ds) = PyData.canLayAll0 ds := by simp [PyData.canLay0]
/-- a datum that is not deep -/
def Flat (n : Nat) (d : PyData) : Prop := PyData.canLay0 d = true ∧ PyData.depth d ≤ n
def FlatL (n : Nat) (ds : List PyData) : Prop := PyData.canLayAll0 ds = true ∧ PyData.depthAll ds ≤ n
theorem Flat.shaped {n : Nat} {d : PyData} (h : Flat n d) (hn : n ≤ 64) : SeqAt.shaped d = true := by
  unfold SeqAt.shaped
  rw [h.1, Bool.true_and]
  exact decide_eq_true (Nat.le_trans h.2 hn)
theorem flatL_nil {n : Nat} : FlatL n [] := ⟨by simp [PyData.canLayAll0], by rw [depthAll_nil]; omega⟩
theorem flatL_cons {n : Nat} {d : PyData} {ds : List PyData} (a : Flat n d) (b : FlatL n ds) : FlatL n (d :: ds) := ⟨by rw [lay_cons, a.1, b.1]; rfl, by
  rw [depthAll_cons]
  have h1 := a.2
  have h2 := b.2
  omega⟩
theorem flat_tup {n : Nat} {ds : List PyData} (h : FlatL n ds) : Flat (n + 1) (.tuple ds) := ⟨by rw [lay_tup]; exact h.1, by rw [depth_tup]; exact Nat.succ_le_succ h.2⟩
theorem flat_lst {n : Nat} {ds : List PyData} (h : FlatL n ds) : Flat (n + 1) (.list ds) := ⟨by rw [lay_lst]; exact h.1, by rw [depth_lst]; exact Nat.succ_le_succ h.2⟩
theorem Flat.mono {n m : Nat} {d : PyData} (h : Flat n d) (k : n ≤ m) : Flat m d := ⟨h.1, Nat.le_trans h.2 k⟩
theorem flat_int {n : Nat} (i : Int) : Flat n (.int i) := ⟨by simp [PyData.canLay0], by simp [PyData.depth]⟩
theorem flat_str {n : Nat} {x : Str} (h : PyData.strOk x = true) : Flat n (.str x) := ⟨by simp [PyData.canLay0, h], by simp [PyData.depth]⟩
/-- some flat datum -/
def AnyF (N : Addr → Prop) (n : Nat) (H : Hp) (v : V) : Prop := ∃ d, Dq N H v d ∧ Flat n d
theorem AnyF.keep {N : Addr → Prop} {n : Nat} {H H' : Hp} {v : V} (h : AnyF N n H v) (k : KeepD N H H') : AnyF N n H' v := let ⟨d, a, b⟩ := h; ⟨d, a.keep k, b⟩
/-! ### numbers of fillings and of ways -/
/-- the number of a row of things below n -/
def dig (n : Int) : List Int → Int
  | [] => 0
  | t :: r => t * n ^ r.length + dig n r
def Below (n : Int) (r : List Int) : Prop := ∀ y ∈ r, 0 ≤ y ∧ y < n
theorem below_cons {n t : Int} {r : List Int} (h : Below n (t :: r)) : 0 ≤ t ∧ t < n ∧ Below n r := ⟨(h t List.mem_cons_self).1, (h t List.mem_cons_self).2, fun y hy => h y (List.mem_cons_of_mem _ hy)⟩
theorem pow_nn {n : Int} {k : Nat} (h : 0 ≤ n) : 0 ≤ n ^ k := Int.pow_nonneg h
/-- two places: less by the first -/
theorem two_lt {a b m x y : Int} (hm : 0 ≤ m) (ha : a < b) (hx : x < m) (hy : 0 ≤ y) : a * m + x < b * m + y := by
  have h : (a + 1) * m ≤ b * m := Int.mul_le_mul_of_nonneg_right (by omega) hm
  rw [Int.add_mul, Int.one_mul] at h
  omega
theorem dig_bound {n : Int} : ∀ {r : List Int}, Below n r → 0 ≤ dig n r ∧ dig n r < n ^ r.length
  | [], _ => ⟨Int.le_refl 0, by show (0 : Int) < n ^ 0; rw [Int.pow_zero]; decide⟩
  | t :: r, h => by
    obtain ⟨h0, h1, h2⟩ := below_cons h
    obtain ⟨i0, i1⟩ := dig_bound h2
    have hm : 0 ≤ n ^ r.length := pow_nn (by omega)
    refine ⟨Int.add_nonneg (Int.mul_nonneg h0 hm) i0, ?_⟩
    have := two_lt hm h1 i1 (Int.le_refl 0)
    rw [Int.add_zero] at this
    rw [List.length_cons, Int.pow_succ, Int.mul_comm (n ^ r.length) n]
    exact this
theorem dig_lt {n : Int} : ∀ {a b : List Int}, a.length = b.length → Below n a → Below n b → LtL a b → dig n a < dig n b
  | x :: a, y :: b, hl, ha, hb, h => by
    obtain ⟨x0, x1, x2⟩ := below_cons ha
    obtain ⟨y0, y1, y2⟩ := below_cons hb
    have hl' : a.length = b.length := by simpa using hl
    have hm : 0 ≤ n ^ b.length := pow_nn (by omega)
    show x * n ^ a.length + dig n a < y * n ^ b.length + dig n b
    rw [hl']
    rcases h with h | ⟨rfl, h⟩
    · have h1 := (dig_bound x2).2
      rw [hl'] at h1
      exact two_lt hm h h1 (dig_bound y2).1
    · have := dig_lt hl' x2 y2 h
      omega
theorem ltl_tri : ∀ {a b : List Int}, a.length = b.length → LtL a b ∨ a = b ∨ LtL b a
  | [], [], _ => .inr (.inl rfl)
  | x :: a, y :: b, hl => by
    have hl' : a.length = b.length := by simpa using hl
    by_cases h1 : x < y
    · exact .inl (.inl h1)
    · by_cases h2 : y < x
      · exact .inr (.inr (.inl h2))
      · obtain rfl : x = y := by omega
        rcases ltl_tri hl' with h | rfl | h
        · exact .inl (.inr ⟨rfl, h⟩)
        · exact .inr (.inl rfl)
        · exact .inr (.inr (.inr ⟨rfl, h⟩))
theorem dig_snoc (n t : Int) : ∀ r : List Int, dig n (r ++ [t]) = dig n r * n + t
  | [] => by simp [dig]
  | x :: r => by
    show x * n ^ (r ++ [t]).length + dig n (r ++ [t]) = (x * n ^ r.length + dig n r) * n + t
    rw [dig_snoc n t r, List.length_append, List.length_singleton, Int.pow_succ, Int.add_mul, Int.mul_assoc]
    omega
/-! ### fillings -/
def FillOk (n : Int) (us : List Int) (p : Int × List Int) : Prop := 0 ≤ p.1 ∧ p.1 < (us.length : Int) ∧ us[p.1.toNat]? = some ((p.2.length : Nat) : Int) ∧ Below n p.2
def fnum (n : Int) (us : List Int) (p : Int × List Int) : Int := cnt n (us.take p.1.toNat) + dig n p.2
theorem cnt_take_mono {n : Int} (h : 0 ≤ n) (us : List Int) {i j : Nat} (hij : i ≤ j) : cnt n (us.take i) ≤ cnt n (us.take j) := by
  have := cnt_take_le h (us.take j) i
  rw [List.take_take, Nat.min_eq_left hij] at this
  exact this
theorem fnum_step {n : Int} {us : List Int} {p : Int × List Int} (h : FillOk n us p) : cnt n (us.take p.1.toNat) ≤ fnum n us p ∧ fnum n us p < cnt n (us.take (p.1.toNat + 1)) := by
  obtain ⟨h0, h1, h2, h3⟩ := h
  obtain ⟨d0, d1⟩ := dig_bound h3
  have e := cnt_take (n := n) h2
  rw [Int.toNat_natCast] at e
  unfold fnum
  omega
theorem fnum_bound {n : Int} {us : List Int} {p : Int × List Int} (hn : 0 ≤ n) (h : FillOk n us p) : 0 ≤ fnum n us p ∧ fnum n us p < cnt n us := by
  obtain ⟨a, b⟩ := fnum_step h
  have h1 := cnt_nonneg hn (us.take p.1.toNat)
  have h2 := cnt_take_le hn us (p.1.toNat + 1)
  omega
theorem fnum_lt {n : Int} {us : List Int} {p q : Int × List Int} (hn : 0 ≤ n) (hp : FillOk n us p) (hq : FillOk n us q) (h : LtP p q) : fnum n us p < fnum n us q := by
  rcases h with h | ⟨e, h⟩
  · have a := (fnum_step hp).2
    have b := (fnum_step hq).1
    have c := cnt_take_mono hn us (i := p.1.toNat + 1) (j := q.1.toNat) (by have := hp.1; omega)
    omega
  · obtain ⟨_, _, p2, p3⟩ := hp
    obtain ⟨_, _, q2, q3⟩ := hq
    rw [e, q2] at p2
    have hl : p.2.length = q.2.length := by
      have := Option.some.inj p2
      omega
    have := dig_lt hl p3 q3 h
    unfold fnum
    rw [e]
    omega
theorem ltp_tri {n : Int} {us : List Int} {p q : Int × List Int} (hp : FillOk n us p) (hq : FillOk n us q) : LtP p q ∨ p = q ∨ LtP q p := by
  by_cases h1 : p.1 < q.1
  · exact .inl (.inl h1)
  · by_cases h2 : q.1 < p.1
    · exact .inr (.inr (.inl h2))
    · have e : p.1 = q.1 := by omega
      have p2 := hp.2.2.1
      rw [e, hq.2.2.1] at p2
      have hl : p.2.length = q.2.length := by
        have := Option.some.inj p2
        omega
      rcases ltl_tri hl with h | h | h
      · exact .inl (.inr ⟨e, h⟩)
      · exact .inr (.inl (Prod.ext e h))
      · exact .inr (.inr (.inr ⟨e.symm, h⟩))
/-! ### ways -/
def manyW (us : List Int) : List Int → Int
  | [] => 1
  | x :: ws => cnt x us * manyW us ws
def wnum (us : List Int) : List Int → List (Int × List Int) → Int
  | x :: ws, p :: wy => fnum x us p * manyW us ws + wnum us ws wy
  | _, _ => 0
theorem many_nn {us : List Int} : ∀ {ws : List Int}, (∀ x ∈ ws, 0 ≤ x) → 0 ≤ manyW us ws
  | [], _ => by show (0 : Int) ≤ 1; decide
  | x :: ws, h => Int.mul_nonneg (cnt_nonneg (h x List.mem_cons_self) us) (many_nn fun y hy => h y (List.mem_cons_of_mem _ hy))
theorem wayOk_cons {us ws : List Int} {x : Int} {p : Int × List Int} {wy : List (Int × List Int)} : WayOk (x :: ws) us (p :: wy) ↔ FillOk x us p ∧ WayOk ws us wy := by
  constructor
  · rintro ⟨hl, h⟩
    refine ⟨h 0 p x rfl rfl, by simpa using hl, fun i q y h1 h2 => h (i + 1) q y h1 h2⟩
  · rintro ⟨hp, hl, h⟩
    refine ⟨by simpa using hl, fun i q y h1 h2 => ?_⟩
    cases i with
    | zero =>
      cases h1
      cases h2
      exact hp
    | succ i => exact h i q y h1 h2
theorem wnum_bound {us : List Int} : ∀ {ws : List Int} {wy : List (Int × List Int)}, (∀ x ∈ ws, 0 ≤ x) → WayOk ws us wy → 0 ≤ wnum us ws wy ∧ wnum us ws wy < manyW us ws
  | [], wy, _, h => by
    have : wy = [] := List.length_eq_zero_iff.mp h.1
    subst this
    exact ⟨Int.le_refl 0, by show (0 : Int) < 1; decide⟩
  | x :: ws, [], _, h => by cases h.1
  | x :: ws, p :: wy, hw, h => by
    obtain ⟨hp, hr⟩ := wayOk_cons.mp h
    have hw' : ∀ y ∈ ws, 0 ≤ y := fun y hy => hw y (List.mem_cons_of_mem _ hy)
    obtain ⟨i0, i1⟩ := wnum_bound hw' hr
    obtain ⟨f0, f1⟩ := fnum_bound (hw x List.mem_cons_self) hp
    have hm := many_nn (us := us) hw'
    refine ⟨Int.add_nonneg (Int.mul_nonneg f0 hm) i0, ?_⟩
    have := two_lt hm f1 i1 (Int.le_refl 0)
    rw [Int.add_zero] at this
    exact this
def LtW : List (Int × List Int) → List (Int × List Int) → Prop
  | p :: a, q :: b => LtP p q ∨ (p = q ∧ LtW a b)
  | _, _ => False
theorem wnum_lt {us : List Int} : ∀ {ws : List Int} {a b : List (Int × List Int)}, (∀ x ∈ ws, 0 ≤ x) → WayOk ws us a → WayOk ws us b → LtW a b → wnum us ws a < wnum us ws b
  | [], a, b, _, ha, hb, h => by
    have : a = [] := List.length_eq_zero_iff.mp ha.1
    subst this
    cases h
  | x :: ws, p :: a, q :: b, hw, ha, hb, h => by
    obtain ⟨hp, ha'⟩ := wayOk_cons.mp ha
    obtain ⟨hq, hb'⟩ := wayOk_cons.mp hb
    have hw' : ∀ y ∈ ws, 0 ≤ y := fun y hy => hw y (List.mem_cons_of_mem _ hy)
    show fnum x us p * manyW us ws + wnum us ws a < fnum x us q * manyW us ws + wnum us ws b
    rcases h with h | ⟨rfl, h⟩
    · exact two_lt (many_nn hw') (fnum_lt (hw x List.mem_cons_self) hp hq h) (wnum_bound hw' ha').2 (wnum_bound hw' hb').1
    · have := wnum_lt hw' ha' hb' h
      omega
theorem ltw_tri {us : List Int} : ∀ {ws : List Int} {a b : List (Int × List Int)}, WayOk ws us a → WayOk ws us b → LtW a b ∨ a = b ∨ LtW b a
  | [], a, b, ha, hb => by
    have h1 : a = [] := List.length_eq_zero_iff.mp ha.1
    have h2 : b = [] := List.length_eq_zero_iff.mp hb.1
    exact .inr (.inl (h1.trans h2.symm))
  | x :: ws, [], _, ha, _ => by cases ha.1
  | x :: ws, p :: a, [], _, hb => by cases hb.1
  | x :: ws, p :: a, q :: b, ha, hb => by
    obtain ⟨hp, ha'⟩ := wayOk_cons.mp ha
    obtain ⟨hq, hb'⟩ := wayOk_cons.mp hb
    rcases ltp_tri hp hq with h | rfl | h
    · exact .inl (.inl h)
    · rcases ltw_tri ha' hb' with h | rfl | h
      · exact .inl (.inr ⟨rfl, h⟩)
      · exact .inr (.inl rfl)
      · exact .inr (.inr (.inr ⟨rfl, h⟩))
    · exact .inr (.inr (.inl h))
theorem wnum_inj {us ws : List Int} {a b : List (Int × List Int)} (hw : ∀ x ∈ ws, 0 ≤ x) (ha : WayOk ws us a) (hb : WayOk ws us b) (h : wnum us ws a = wnum us ws b) : a = b := by
  rcases ltw_tri ha hb with q | q | q
  · have := wnum_lt hw ha hb q
    omega
  · exact q
  · have := wnum_lt hw hb ha q
    omega
theorem wayOk_app {us : List Int} : ∀ {a b : List Int} {v w : List (Int × List Int)}, WayOk a us v → WayOk b us w → WayOk (a ++ b) us (v ++ w)
  | [], b, v, w, h, k => by
    have : v = [] := List.length_eq_zero_iff.mp h.1
    subst this
    exact k
  | x :: a, b, [], w, h, k => by cases h.1
  | x :: a, b, p :: v, w, h, k => by
    obtain ⟨h1, h2⟩ := wayOk_cons.mp h
    exact wayOk_cons.mpr ⟨h1, wayOk_app h2 k⟩
/-! ### < and == of ways as the model has them -/
theorem eqvAll_ints : ∀ a b : List Int, PyData.eqvAll (a.map PyData.int) (b.map PyData.int) = decide (a = b)
  | [], [] => by simp [PyData.eqvAll]
  | [], y :: b => by simp [PyData.eqvAll]
  | x :: a, [] => by simp [PyData.eqvAll]
  | x :: a, y :: b => by
    rw [List.map_cons, List.map_cons, PySem.W.eqv_all_cons, eqvAll_ints a b]
    by_cases e : x = y
    · subst e
      rw [eqv_int, Bool.true_and]
      by_cases h : a = b
      · rw [decide_eq_true h, decide_eq_true (by rw [h])]
      · rw [decide_eq_false h, decide_eq_false fun q => h (List.cons.inj q).2]
    · rw [eqv_ints_ne e, Bool.false_and, decide_eq_false fun q => e (List.cons.inj q).1]
theorem eqv_pair (p q : Int × List Int) : PyData.eqv (dPair p) (dPair q) = decide (p = q) := by
  unfold dPair
  simp only [PyData.eqv]
  rw [PySem.W.eqv_all_cons, PySem.W.eqv_all_cons]
  simp only [PyData.eqv, PyData.eqvAll, Bool.and_true]
  rw [eqvAll_ints]
  by_cases h1 : p.1 = q.1
  · by_cases h2 : p.2 = q.2
    · rw [decide_eq_true h2, decide_eq_true (Prod.ext h1 h2), h1]
      simp
    · rw [decide_eq_false h2, decide_eq_false fun e => h2 (by rw [e]), Bool.and_false]
  · rw [decide_eq_false (show ¬ p = q from fun e => h1 (by rw [e]))]
    simp [h1]
/-! ### how great they are -/
/-! ### the numbers from 0 on, the idle way -/
def iota (x : Int) : List Int := (List.range x.toNat).map fun (i : Nat) => (i : Int)
theorem iota_len (x : Int) : (iota x).length = x.toNat := by unfold iota; rw [List.length_map, List.length_range]
theorem iota_get {x : Int} {i : Nat} (h : i < x.toNat) : (iota x)[i]? = some (i : Int) := by
  unfold iota
  rw [List.getElem?_map, List.getElem?_range h]
  rfl
theorem iota_below (x : Int) : Below x (iota x) := fun y hy => by
  obtain ⟨i, hi, rfl⟩ := List.mem_map.mp hy
  have := List.mem_range.mp hi
  omega
def plainF (ws : List Int) (i : Nat) : Int × List Int := ((i : Int), iota (ws.getD i 0))
def idleW (ws : List Int) : List (Int × List Int) := (List.range ws.length).map (plainF ws)
theorem idle_len (ws : List Int) : (idleW ws).length = ws.length := by unfold idleW; rw [List.length_map, List.length_range]
theorem plainF_get {ws : List Int} {i : Nat} {x : Int} (h : ws[i]? = some x) : plainF ws i = ((i : Int), iota x) := by
  unfold plainF
  rw [List.getD_eq_getElem?_getD, h]
  rfl
theorem idle_get {ws : List Int} {i : Nat} {x : Int} (h : ws[i]? = some x) : (idleW ws)[i]? = some ((i : Int), iota x) := by
  unfold idleW
  rw [List.getElem?_map, List.getElem?_range (List.getElem?_eq_some_iff.mp h).1]
  show some (plainF ws i) = _
  rw [plainF_get h]
theorem idle_ok {ws : List Int} (hw : ∀ x ∈ ws, 0 ≤ x) : WayOk ws ws (idleW ws) := by
  refine ⟨idle_len ws, fun i p x h1 h2 => ?_⟩
  rw [idle_get h2] at h1
  cases h1
  have h0 := hw x (List.mem_of_getElem? h2)
  have hi := (List.getElem?_eq_some_iff.mp h2).1
  refine ⟨by show (0 : Int) ≤ (i : Int); omega, by show (i : Int) < _; omega, ?_, iota_below x⟩
  show ws[((i : Int)).toNat]? = some (((iota x).length : Nat) : Int)
  rw [Int.toNat_natCast, h2, iota_len]
  congr 1
  omega
/-! ### what there is where a way is -/
/-! ### promises of the counting -/
/-! ### ways side by side, a tray more -/
/-! ### one way and then another -/
def pick (r : List Int) (y : Int) : Int := r.getD y.toNat 0
def stepW (w : List (Int × List Int)) (p : Int × List Int) : Int × List Int :=
  match w[p.1.toNat]? with
  | some q => (q.1, q.2.map (pick p.2))
  | none => (0, [])
def thenW (v w : List (Int × List Int)) : List (Int × List Int) := v.map (stepW w)
theorem step_some {w : List (Int × List Int)} {p q : Int × List Int} (h : w[p.1.toNat]? = some q) : stepW w p = (q.1, q.2.map (pick p.2)) := by
  unfold stepW
  rw [h]
theorem pick_in {r : List Int} {y : Int} (h0 : 0 ≤ y) (h1 : y < (r.length : Int)) : r[y.toNat]? = some (pick r y) := by
  unfold pick
  rw [List.getD_eq_getElem?_getD, List.getElem?_eq_getElem (by omega)]
  rfl
/-- the pair of a way where a filling of its first crate leads -/
theorem way_at {us xs : List Int} {w : List (Int × List Int)} {x : Int} {p : Int × List Int} (hw : WayOk us xs w) (hp : FillOk x us p) : ∃ q, w[p.1.toNat]? = some q ∧ FillOk ((p.2.length : Nat) : Int) xs q := by
  obtain ⟨h0, h1, h2, h3⟩ := hp
  have hl : p.1.toNat < w.length := by rw [hw.1]; omega
  exact ⟨w[p.1.toNat], List.getElem?_eq_getElem hl, hw.2 _ _ _ (List.getElem?_eq_getElem hl) h2⟩
theorem step_ok {us xs : List Int} {w : List (Int × List Int)} {x : Int} {p : Int × List Int} (hw : WayOk us xs w) (hp : FillOk x us p) : FillOk x xs (stepW w p) := by
  obtain ⟨q, hq, q0, q1, q2, q3⟩ := way_at hw hp
  rw [step_some hq]
  refine ⟨q0, q1, by rw [List.length_map]; exact q2, fun y hy => ?_⟩
  obtain ⟨z, hz, rfl⟩ := List.mem_map.mp hy
  obtain ⟨z0, z1⟩ := q3 z hz
  exact hp.2.2.2 _ (List.mem_of_getElem? (pick_in z0 z1))
theorem then_len (v w : List (Int × List Int)) : (thenW v w).length = v.length := List.length_map ..
theorem then_get {v w : List (Int × List Int)} {i : Nat} {p : Int × List Int} (h : v[i]? = some p) : (thenW v w)[i]? = some (stepW w p) := by
  unfold thenW
  rw [List.getElem?_map, h]
  rfl
theorem then_ok {ws us xs : List Int} {v w : List (Int × List Int)} (hv : WayOk ws us v) (hw : WayOk us xs w) : WayOk ws xs (thenW v w) := by
  refine ⟨by rw [then_len, hv.1], fun i p x h1 h2 => ?_⟩
  have hi : i < v.length := by rw [hv.1]; exact (List.getElem?_eq_some_iff.mp h2).1
  have g : v[i]? = some v[i] := List.getElem?_eq_getElem hi
  rw [then_get g] at h1
  cases h1
  exact step_ok hw (hv.2 i _ x g h2)
theorem pick_map {f : Int → Int} {r : List Int} {y : Int} (h0 : 0 ≤ y) (h1 : y < (r.length : Int)) : pick (r.map f) y = f (pick r y) := by
  have a := pick_in h0 h1
  have b : (r.map f)[y.toNat]? = some (pick (r.map f) y) := pick_in h0 (by rw [List.length_map]; exact h1)
  rw [List.getElem?_map, a] at b
  exact (Option.some.inj b).symm
theorem step_step {us xs ys : List Int} {w z : List (Int × List Int)} {x : Int} {p : Int × List Int} (hw : WayOk us xs w) (hz : WayOk xs ys z) (hp : FillOk x us p) : stepW z (stepW w p) = stepW (thenW w z) p := by
  obtain ⟨q, hq, fq⟩ := way_at hw hp
  obtain ⟨r, hr, fr⟩ := way_at hz fq
  rw [step_some hq, step_some (w := thenW w z) (then_get hq), step_some (w := z) (p := (q.1, q.2.map (pick p.2))) hr, step_some hr]
  refine Prod.ext rfl ?_
  show r.2.map (pick (q.2.map (pick p.2))) = (r.2.map (pick q.2)).map (pick p.2)
  rw [List.map_map]
  refine List.map_congr_left fun y hy => ?_
  obtain ⟨y0, y1⟩ := fr.2.2.2 y hy
  exact pick_map y0 y1
theorem pick_iota {x y : Int} (h0 : 0 ≤ y) (h1 : y < x) : pick (iota x) y = y := by
  have a : (iota x)[y.toNat]? = some (pick (iota x) y) := pick_in h0 (by rw [iota_len]; omega)
  rw [iota_get (by omega)] at a
  have := Option.some.inj a
  omega
theorem idle_then {ws us : List Int} {v : List (Int × List Int)} (hv : WayOk ws us v) : thenW (idleW ws) v = v := by
  refine List.ext_getElem? fun i => ?_
  by_cases hi : i < ws.length
  · have g : ws[i]? = some ws[i] := List.getElem?_eq_getElem hi
    have hiv : i < v.length := by rw [hv.1]; exact hi
    have gv : v[i]? = some v[i] := List.getElem?_eq_getElem hiv
    rw [then_get (idle_get g), step_some (w := v) (p := ((i : Int), iota ws[i])) (q := v[i]) (by show v[((i : Int)).toNat]? = _; rw [Int.toNat_natCast]; exact gv), gv]
    congr 1
    refine Prod.ext rfl ?_
    show v[i].2.map (pick (iota ws[i])) = v[i].2
    refine (List.map_congr_left fun y hy => ?_).trans (List.map_id _)
    obtain ⟨y0, y1⟩ := (hv.2 i _ _ gv g).2.2.2 y hy
    exact pick_iota y0 y1
  · rw [List.getElem?_eq_none (by rw [then_len, idle_len]; omega), List.getElem?_eq_none (by rw [hv.1]; omega)]
/-! ### promises of the ways -/
/-! ### crates and ways from each to the next -/
def Chn (H : Hp) (ts : List Addr) (cs : List (List Int)) (bs : List Addr) (vs : List (List (Int × List Int))) : Prop :=
  ts.length = cs.length ∧ bs.length = vs.length ∧ cs.length = vs.length + 1 ∧ (∀ (j : Nat) (t : Addr) (c : List Int), ts[j]? = some t → cs[j]? = some c → H t = some (.tup (c.map V.int)) ∧ c.length ≤ 60 ∧ ∀ x ∈ c, 0 ≤ x ∧ x ≤ 12) ∧
  ∀ (j : Nat) (b : Addr) (v : List (Int × List Int)) (c d : List Int), bs[j]? = some b → vs[j]? = some v → cs[j]? = some c → cs[j + 1]? = some d → Way H b v ∧ WayOk c d v
theorem Chn.keep {H H' : Hp} {ts : List Addr} {cs : List (List Int)} {bs : List Addr} {vs : List (List (Int × List Int))} (h : Chn H ts cs bs vs) (k : KeepT H H') : Chn H' ts cs bs vs := by
  obtain ⟨h1, h2, h3, h4, h5⟩ := h
  refine ⟨h1, h2, h3, fun j t c a b => ?_, fun j b v c d p q r s => ?_⟩
  · obtain ⟨e, f⟩ := h4 j t c a b
    exact ⟨k _ _ e, f⟩
  · obtain ⟨e, f⟩ := h5 j b v c d p q r s
    exact ⟨e.keep k, f⟩
theorem get_app {α : Type} {xs : List α} {x y : α} {j : Nat} (h : (xs ++ [x])[j]? = some y) : (j < xs.length ∧ xs[j]? = some y) ∨ (j = xs.length ∧ y = x) := by
  by_cases hj : j < xs.length
  · rw [List.getElem?_append_left hj] at h
    exact .inl ⟨hj, h⟩
  · have hlt := (List.getElem?_eq_some_iff.mp h).1
    rw [List.length_append, List.length_singleton] at hlt
    have e : j = xs.length := by omega
    subst e
    rw [List.getElem?_append_right (Nat.le_refl _), Nat.sub_self] at h
    exact .inr ⟨rfl, (Option.some.inj h).symm⟩
theorem Chn.push {H : Hp} {ts : List Addr} {cs : List (List Int)} {bs : List Addr} {vs : List (List (Int × List Int))} {t b : Addr} {c d : List Int} {v : List (Int × List Int)} (h : Chn H ts cs bs vs) (hc : cs[vs.length]? = some c) (ht : H t = some (.tup (d.map V.int))) (hl : d.length ≤ 60) (hd : ∀ x ∈ d, 0 ≤ x ∧ x ≤ 12) (hv : Way H b v) (ok : WayOk c d v) : Chn H (ts ++ [t]) (cs ++ [d]) (bs ++ [b]) (vs ++ [v]) := by
  obtain ⟨h1, h2, h3, h4, h5⟩ := h
  refine ⟨by rw [List.length_append, List.length_append, h1]; rfl, by rw [List.length_append, List.length_append, h2]; rfl, by rw [List.length_append, List.length_append, h3]; rfl, fun j t' c' p q => ?_, fun j b' v' c' d' p q r s => ?_⟩
  · rcases get_app p with ⟨p0, p1⟩ | ⟨rfl, rfl⟩
    · rcases get_app q with ⟨_, q1⟩ | ⟨q0, _⟩
      · exact h4 j t' c' p1 q1
      · omega
    · rcases get_app q with ⟨q0, _⟩ | ⟨_, rfl⟩
      · omega
      · exact ⟨ht, hl, hd⟩
  · rcases get_app p with ⟨p0, p1⟩ | ⟨p0, rfl⟩
    · rcases get_app q with ⟨_, q1⟩ | ⟨q0, _⟩
      · rcases get_app r with ⟨_, r1⟩ | ⟨r0, _⟩
        · rcases get_app s with ⟨_, s1⟩ | ⟨s0, _⟩
          · exact h5 j b' v' c' d' p1 q1 r1 s1
          · omega
        · omega
      · omega
    · rcases get_app q with ⟨q0, _⟩ | ⟨_, rfl⟩
      · omega
      · rcases get_app s with ⟨s0, _⟩ | ⟨s0, rfl⟩
        · omega
        · rcases get_app r with ⟨_, r1⟩ | ⟨r0, _⟩
          · have e : j = vs.length := by omega
            rw [e, hc] at r1
            cases r1
            exact ⟨hv, ok⟩
          · omega
end Tm

namespace Tm
open PySem PySem.Spec PyProof.Rows L2 HT
/-! ### t[::-1], t a tuple: a new one -/
/-! ### t[:i] -/
/-! ### divisors below 2 ^ 64 -/
/-! ### the last pair of a way -/
/-! ### what is asked of anything -/
def crateD : PyData → Bool
  | .tuple ds => decide (ds.length ≤ 60) && ds.all (wellD 13)
  | _ => false
def fitsD (us : List Int) : PyData → Bool
  | .tuple [.int t, .tuple fs] => decide (0 ≤ t) && decide (t < (us.length : Int)) && decide (us[t.toNat]? = some ((fs.length : Nat) : Int))
  | _ => false
/-! ### a comprehension over zip of two tuples -/
/-! ### things taken by wells -/
end Tm

namespace Tm
open PySem PySem.Spec PyProof.Rows L2
/-! ### t[1:] -/
/-! ### lists of ways -/
def Ways (H : Hp) (xs : List V) (wys : List (List (Int × List Int))) : Prop := xs.length = wys.length ∧ ∀ (i : Nat) (x : V) (w : List (Int × List Int)), xs[i]? = some x → wys[i]? = some w → ∃ a, x = .ref a ∧ Way H a w
theorem Ways.keep {H H' : Hp} {xs : List V} {wys : List (List (Int × List Int))} (h : Ways H xs wys) (k : KeepT H H') : Ways H' xs wys := ⟨h.1, fun i x w h1 h2 => by
  obtain ⟨a, e, q⟩ := h.2 i x w h1 h2
  exact ⟨a, e, q.keep k⟩⟩
theorem Ways.push {H : Hp} {xs : List V} {wys : List (List (Int × List Int))} {a : Addr} {w : List (Int × List Int)} (h : Ways H xs wys) (e : Way H a w) : Ways H (xs ++ [.ref a]) (wys ++ [w]) := by
  refine ⟨by rw [List.length_append, List.length_append, h.1]; rfl, fun i x v h1 h2 => ?_⟩
  by_cases hi : i < xs.length
  · rw [List.getElem?_append_left hi] at h1
    rw [List.getElem?_append_left (by rw [← h.1]; exact hi)] at h2
    exact h.2 i x v h1 h2
  · have hlt : i < (xs ++ [V.ref a]).length := (List.getElem?_eq_some_iff.mp h1).1
    rw [List.length_append] at hlt
    have ei : i = xs.length := by
      have : ([V.ref a] : List V).length = 1 := rfl
      omega
    subst ei
    rw [List.getElem?_append_right (Nat.le_refl _), Nat.sub_self] at h1
    rw [h.1, List.getElem?_append_right (Nat.le_refl _), Nat.sub_self] at h2
    cases h1
    cases h2
    exact ⟨a, rfl, e⟩
/-! ### a filling of numbers turned -/
theorem then_idle_get {ws us : List Int} {v : List (Int × List Int)} (hv : WayOk ws us v) {i : Nat} {x : Int} (g : ws[i]? = some x) : v[i]? = some (stepW v ((i : Int), iota x)) := by
  have h := then_get (w := v) (idle_get g)
  rw [idle_then hv] at h
  exact h
/-! ### read_off -/
end Tm

namespace Tm
open PySem PySem.Spec PyProof.Rows L2
/-- whole numbers that rise within as many places -/
theorem rising_eq : ∀ (l : List Int) (lo : Int), l.Pairwise (· < ·) → (∀ x ∈ l, lo ≤ x ∧ x < lo + (l.length : Int)) → ∀ (j : Nat) (x : Int), l[j]? = some x → x = lo + (j : Int)
  | [], _, _, _, j, x, h => by simp at h
  | y :: r, lo, hp, hb, j, x, h => by
    rw [List.pairwise_cons] at hp
    have hy := hb y List.mem_cons_self
    have hl : (((y :: r).length : Nat) : Int) = (r.length : Int) + 1 := by simp
    have ih := rising_eq r (lo + 1) hp.2 fun z hz => by
      have h1 := hp.1 z hz
      have h2 := hb z (List.mem_cons_of_mem _ hz)
      omega
    have ey : y = lo := by
      cases r with
      | nil =>
        have : ((([y] : List Int).length : Nat) : Int) = 1 := rfl
        omega
      | cons z r' =>
        have h1 := ih 0 z rfl
        have h2 := hp.1 z List.mem_cons_self
        omega
    cases j with
    | zero =>
      cases h
      rw [ey]
      simp
    | succ j =>
      have := ih j x h
      omega
theorem fills_num {n : Nat} {us : List Int} (hu : ∀ x ∈ us, 0 ≤ x ∧ x ≤ 12) {j : Nat} {p : Int × List Int} (h : (fills n us us.length)[j]? = some p) : FillOk (n : Int) us p ∧ fnum (n : Int) us p = (j : Int) := by
  have fok : ∀ q ∈ fills n us us.length, FillOk (n : Int) us q := fun q hq => fills_mem (Nat.le_refl _) hu hq
  refine ⟨fok p (List.mem_of_getElem? h), ?_⟩
  have hl := fills_len (n := n) (ws := us) (i := us.length) (Nat.le_refl _)
  rw [List.take_length] at hl
  have hs := fills_sorted n us us.length
  have hp : ((fills n us us.length).map (fnum (n : Int) us)).Pairwise (· < ·) := by
    rw [List.pairwise_map]
    refine hs.imp_of_mem fun {a b} ha hb hab => ?_
    exact fnum_lt (by omega) (fok a ha) (fok b hb) hab
  have := rising_eq _ 0 hp (fun x hx => by
    obtain ⟨q, hq, rfl⟩ := List.mem_map.mp hx
    have := fnum_bound (n := (n : Int)) (by omega) (fok q hq)
    rw [List.length_map]
    omega) j (fnum (n : Int) us p) (by rw [List.getElem?_map, h]; rfl)
  omega
theorem one_way {n : Int} {us : List Int} {p : Int × List Int} (h : FillOk n us p) : WayOk [n] us [p] := wayOk_cons.mpr ⟨h, ⟨rfl, fun i p x h1 _ => by simp at h1⟩⟩
theorem one_num (n : Int) (us : List Int) (p : Int × List Int) : wnum us [n] [p] = fnum n us p := by
  show fnum n us p * 1 + 0 = _
  omega
/-! ### an error that a suite gives to a name, for later -/
/-! ### isinstance of a kept error -/
/-! ### zip of a tuple and a list -/
theorem five_all {z TI TO i1 i2 : Addr} {R : Addr → Prop} (h1 : R z) (h2 : R TI) (h3 : R TO) (h4 : R i1) (h5 : R i2) : ∀ c ∈ [z, TI, TO, i1, i2], R c := by
  simp only [List.forall_mem_cons]
  exact ⟨h1, h2, h3, h4, h5, fun _ h => absurd h List.not_mem_nil⟩
/-- how a zip of a tuple and a list stands ahead of its turn i -/
structure Stands (z TI TO i1 i2 a b : Addr) (i : Nat) (h : Heap) : Prop where
  zip : IsZip h z TI TO .none
  ins : IsPair h TI (.ref i1) (.ref i2)
  outs : ∃ x y, IsPair h TO x y
  one : h.IsTupleIter i1 a i
  two : h.IsListIter i2 b i
theorem Stands.lt {z TI TO i1 i2 a b : Addr} {i : Nat} {h : Heap} (t : Stands z TI TO i1 i2 a b i h) : ∀ c ∈ [z, TI, TO, i1, i2], c < h.objs.size :=
  five_all (Heap.lt_size t.zip) (Heap.lt_size t.ins) (let ⟨_, _, e⟩ := t.outs; Heap.lt_size e) (let ⟨_, e, _⟩ := t.one; Heap.lt_size e) (let ⟨_, e, _⟩ := t.two; Heap.lt_size e)
open Sem (wp)
/-! ### enumerate(zip(a, b)): the zip's pair stays out from one turn to the next -/
/-! ### the rule -/
/-! ### text * number -/
def rMulS : R2 := fun x y H Q => ∃ (z : Str) (n : Int), x = .str z ∧ y = .int n ∧ MulOk z n ∧ Q (.str (Txt.mul z n)) H
theorem op_mulS {X : Cx} : OpR X (binaryOp .Mult) rMulS := by
  intro pins s σ H x y v u Q I rx ry h
  obtain ⟨z, n, rfl, rfl, hok, q⟩ := h
  obtain ⟨t, rfl⟩ := rx
  obtain ⟨t', rfl⟩ := ry
  exact SB.mul hok fun t2 k => ⟨.str (Txt.mul z n), H, I.tok _, ⟨_, rfl⟩, q⟩
/-- a number or a text -/
def Pl (v : V) : Prop := (∃ i, v = .int i) ∨ ∃ z, v = .str z ∧ PyData.strOk z = true
theorem Pl.any {N : Addr → Prop} {n : Nat} {H : Hp} {v : V} (h : Pl v) : AnyF N n H v := by
  rcases h with ⟨i, rfl⟩ | ⟨z, rfl, hz⟩
  · exact ⟨_, .int i, flat_int i⟩
  · exact ⟨_, .str z, flat_str hz⟩
/-! ### crates joined -/
/-! ### rows of rows -/
/-! ### crates multiplied -/
/-! ### the walks of a comprehension with two fors -/
section
variable {X : Cx}
/-! ### a range as a value, and what is not in it -/
end
/-! ### t[n:] -/
/-! ### things of a product -/
/-! ### data in a heap; N: lists that are still changed -/
def KL (K : PySem.W.Frag) (a : Addr) (xs : List V) : Prop := ∃ (o : Obj) (its : Array Value) (n : Nat), K.lookup a = some o ∧ o.cls = .type "list" ∧ o.dict = none ∧ o.data = .seq its n ∧ its.size ≤ sizeLine ∧ Vals xs its.toList
/-- the script, as a datum that no other is like -/
def scrD (ds : List PyData) : PyData := .dict [(.none, .list ds)]
/-- a tuple of which the object is known -/
abbrev ctD (ds : List PyData) : PyData := .dict [(.none, .tuple ds)]
/-- a dict with text keys, at a, that stays -/
abbrev kepD (a : Addr) (m : List (PyData × PyData)) : PyData := .dict [(.bool false, .bool true), (.int ((a : Nat) : Int), .dict m)]
/-- a text as key -/
def kStr : Key → PyData
  | .inl i => .int i
  | .inr z => .str z
mutual
inductive Dd (K : PySem.W.Frag) (N : Addr → Prop) (H : Hp) : V → PyData → Prop
  | non : Dd K N H .non .none
  | bl (b : Bool) : Dd K N H (.bl b) (.bool b)
  | int (i : Int) : Dd K N H (.int i) (.int i)
  | str (x : Str) : Dd K N H (.str x) (.str x)
  | lst {a : Addr} {xs : List V} {ds : List PyData} : H a = some (.lst xs) → ¬ N a → DdAll K N H xs ds → Dd K N H (.ref a) (.list ds)
  | scr {a : Addr} {xs : List V} {ds : List PyData} : (Rd H a (.lst xs) ∧ ¬ N a) ∨ KL K a xs → DdAll K N H xs ds → Dd K N H (.ref a) (.dict [(.none, .list ds)])
  | tup {a : Addr} {xs : List V} {ds : List PyData} : SqT K H a xs → DdAll K N H xs ds → Dd K N H (.ref a) (.tuple ds)
  | ctup {a : Addr} {o : Obj} {xs : List V} {ds : List PyData} : H a = some (.frz o (.tup xs)) → ¬ N a → o.dict = none → DdAll K N H xs ds → Dd K N H (.ref a) (.dict [(.none, .tuple ds)])
  | kep {a : Addr} {kvs : List (Key × V)} {m : List (PyData × PyData)} : H a = some (.dK kvs) → ¬ N a → m.map Prod.fst = kvs.map (fun p => kStr p.1) → DdAll K N H (kvs.map Prod.snd) (m.map Prod.snd) → Dd K N H (.ref a) (.dict [(.bool false, .bool true), (.int ((a : Nat) : Int), .dict m)])
  | opq {a : Addr} : Dd K N H (.ref a) (.dict [(.bool true, .bool true), (.int ((a : Nat) : Int), .none)])
inductive DdAll (K : PySem.W.Frag) (N : Addr → Prop) (H : Hp) : List V → List PyData → Prop
  | nil : DdAll K N H [] []
  | cons {v : V} {vs : List V} {d : PyData} {ds : List PyData} : Dd K N H v d → DdAll K N H vs ds → DdAll K N H (v :: vs) (d :: ds)
end
/-- what is shared stays -/
structure KeepF (N : Addr → Prop) (H : Hp) (N' : Addr → Prop) (H' : Hp) : Prop where
  c : ∀ a o, H a = some o → ¬ N a → H' a = some o ∧ ¬ N' a
  t : ∀ a xs, Rd H a (.tup xs) → Rd H' a (.tup xs)
theorem KeepF.refl {N : Addr → Prop} {H : Hp} : KeepF N H N H := ⟨fun _ _ h n => ⟨h, n⟩, fun _ _ h => h⟩
theorem KeepF.trans {N N1 N2 : Addr → Prop} {H H1 H2 : Hp} (a : KeepF N H N1 H1) (b : KeepF N1 H1 N2 H2) : KeepF N H N2 H2 := ⟨fun c xs h n => let ⟨h', n'⟩ := a.c c xs h n; b.c c xs h' n', fun c xs h => b.t c xs (a.t c xs h)⟩
theorem same_rd {H H' : Hp} {a : Addr} {u : HO} (s : Same H H') (h : Rd H a u) : Rd H' a u := by
  rcases h with h | ⟨o, h⟩
  · exact .inl (s _ _ h)
  · exact .inr ⟨o, s _ _ h⟩
theorem KeepF.same {N : Addr → Prop} {H H' : Hp} (s : Same H H') : KeepF N H N H' := ⟨fun _ _ h n => ⟨s _ _ h, n⟩, fun _ _ h => same_rd s h⟩
theorem KeepF.weak {N N' : Addr → Prop} {H : Hp} (k : ∀ a, N' a → N a) : KeepF N H N' H := ⟨fun _ _ h n => ⟨h, fun z => n (k _ z)⟩, fun _ _ h => h⟩
theorem KeepF.sqt {K : PySem.W.Frag} {N N' : Addr → Prop} {H H' : Hp} (k : KeepF N H N' H') {a : Addr} {xs : List V} (h : SqT K H a xs) : SqT K H' a xs := by
  rcases h with h | h
  · exact .inl (k.t a xs h)
  · exact .inr h
theorem KeepF.rd {N N' : Addr → Prop} {H H' : Hp} (k : KeepF N H N' H') {a : Addr} {u : HO} (h : Rd H a u) (n : ¬ N a) : Rd H' a u ∧ ¬ N' a := by
  rcases h with h | ⟨o, h⟩
  · exact ⟨.inl (k.c _ _ h n).1, (k.c _ _ h n).2⟩
  · exact ⟨.inr ⟨o, (k.c _ _ h n).1⟩, (k.c _ _ h n).2⟩
theorem KeepF.scr {K : PySem.W.Frag} {N N' : Addr → Prop} {H H' : Hp} (k : KeepF N H N' H') {a : Addr} {xs : List V} (h : (Rd H a (.lst xs) ∧ ¬ N a) ∨ KL K a xs) : (Rd H' a (.lst xs) ∧ ¬ N' a) ∨ KL K a xs := by
  rcases h with ⟨h, n⟩ | h
  · exact .inl (k.rd h n)
  · exact .inr h
mutual
theorem Dd.keep {K : PySem.W.Frag} {N N' : Addr → Prop} {H H' : Hp} (k : KeepF N H N' H') : ∀ {v : V} {d : PyData}, Dd K N H v d → Dd K N' H' v d
  | _, _, .non => .non
  | _, _, .bl b => .bl b
  | _, _, .int i => .int i
  | _, _, .str x => .str x
  | _, _, .lst e n h => .lst (k.c _ _ e n).1 (k.c _ _ e n).2 (DdAll.keep k h)
  | _, _, .scr e h => .scr (k.scr e) (DdAll.keep k h)
  | _, _, .tup e h => .tup (k.sqt e) (DdAll.keep k h)
  | _, _, .ctup e n d h => .ctup (k.c _ _ e n).1 (k.c _ _ e n).2 d (DdAll.keep k h)
  | _, _, .kep e n d h => .kep (k.c _ _ e n).1 (k.c _ _ e n).2 d (DdAll.keep k h)
  | _, _, .opq => .opq
theorem DdAll.keep {K : PySem.W.Frag} {N N' : Addr → Prop} {H H' : Hp} (k : KeepF N H N' H') : ∀ {vs : List V} {ds : List PyData}, DdAll K N H vs ds → DdAll K N' H' vs ds
  | _, _, .nil => .nil
  | _, _, .cons a b => .cons (Dd.keep k a) (DdAll.keep k b)
end
theorem Dd.same {K : PySem.W.Frag} {N : Addr → Prop} {H H' : Hp} {v : V} {d : PyData} (h : Dd K N H v d) (s : Same H H') : Dd K N H' v d := h.keep (.same s)
theorem DdAll.same {K : PySem.W.Frag} {N : Addr → Prop} {H H' : Hp} {v : List V} {d : List PyData} (h : DdAll K N H v d) (s : Same H H') : DdAll K N H' v d := h.keep (.same s)
theorem lay_cons' {d : PyData} {ds : List PyData} (h : PyData.canLayAll0 (d :: ds) = true) : PyData.canLay0 d = true ∧ PyData.canLayAll0 ds = true := by
  rw [lay_cons, Bool.and_eq_true] at h
  exact h
mutual
theorem Dd.dp {K : PySem.W.Frag} {N : Addr → Prop} {H : Hp} : ∀ {v : V} {d : PyData}, Dd K N H v d → PyData.canLay0 d = true → Dp K H v d
  | _, _, .non, _ => .non
  | _, _, .bl b, _ => .bl b
  | _, _, .int i, _ => .int i
  | _, _, .str x, _ => .str x
  | _, _, .lst e _ h, c => .lst (SqL.of e) (DdAll.dp h (by rw [← lay_lst]; exact c))
  | _, _, .scr e h, c => by simp [PyData.canLay0] at c
  | _, _, .tup e h, c => .tup e (DdAll.dp h (by rw [← lay_tup]; exact c))
  | _, _, .ctup e _ _ h, c => by simp [PyData.canLay0] at c
  | _, _, .kep e _ _ h, c => by simp [PyData.canLay0] at c
  | _, _, .opq, c => by simp [PyData.canLay0] at c
theorem DdAll.dp {K : PySem.W.Frag} {N : Addr → Prop} {H : Hp} : ∀ {vs : List V} {ds : List PyData}, DdAll K N H vs ds → PyData.canLayAll0 ds = true → DpAll K H vs ds
  | _, _, .nil, _ => .nil
  | _, _, .cons a b, c => .cons (Dd.dp a (lay_cons' c).1) (DdAll.dp b (lay_cons' c).2)
end
theorem DdAll.len {K : PySem.W.Frag} {N : Addr → Prop} {H : Hp} : ∀ {vs : List V} {ds : List PyData}, DdAll K N H vs ds → vs.length = ds.length
  | _, _, .nil => rfl
  | _, _, .cons _ b => by rw [List.length_cons, List.length_cons, b.len]
theorem DdAll.get {K : PySem.W.Frag} {N : Addr → Prop} {H : Hp} : ∀ {vs : List V} {ds : List PyData} {i : Nat} {d : PyData}, DdAll K N H vs ds → ds[i]? = some d → ∃ v, vs[i]? = some v ∧ Dd K N H v d
  | _, _, i, _, .nil, h => by simp at h
  | _, _, 0, _, .cons a b, h => by
    cases h
    exact ⟨_, rfl, a⟩
  | _, _, i + 1, _, .cons a b, h => b.get (i := i) h
theorem DdAll.app {K : PySem.W.Frag} {N : Addr → Prop} {H : Hp} : ∀ {vs ws : List V} {ds es : List PyData}, DdAll K N H vs ds → DdAll K N H ws es → DdAll K N H (vs ++ ws) (ds ++ es)
  | _, _, _, _, .nil, h => h
  | _, _, _, _, .cons a b, h => .cons a (b.app h)
theorem DdAll.one {K : PySem.W.Frag} {N : Addr → Prop} {H : Hp} {v : V} {d : PyData} (h : Dd K N H v d) : DdAll K N H [v] [d] := .cons h .nil
theorem DdAll.take {K : PySem.W.Frag} {N : Addr → Prop} {H : Hp} : ∀ {vs : List V} {ds : List PyData} (n : Nat), DdAll K N H vs ds → DdAll K N H (vs.take n) (ds.take n)
  | _, _, 0, _ => .nil
  | _, _, _ + 1, .nil => .nil
  | _, _, n + 1, .cons a b => .cons a (b.take n)
theorem DdAll.drop {K : PySem.W.Frag} {N : Addr → Prop} {H : Hp} : ∀ {vs : List V} {ds : List PyData} (n : Nat), DdAll K N H vs ds → DdAll K N H (vs.drop n) (ds.drop n)
  | _, _, 0, h => h
  | _, _, _ + 1, .nil => .nil
  | _, _, n + 1, .cons a b => b.drop n
theorem DdAll.reverse {K : PySem.W.Frag} {N : Addr → Prop} {H : Hp} : ∀ {vs : List V} {ds : List PyData}, DdAll K N H vs ds → DdAll K N H vs.reverse ds.reverse
  | _, _, .nil => .nil
  | _, _, .cons a b => by
    rw [List.reverse_cons, List.reverse_cons]
    exact b.reverse.app (.one a)
theorem DdAll.set {K : PySem.W.Frag} {N : Addr → Prop} {H : Hp} {v : V} {d : PyData} (h : Dd K N H v d) : ∀ {vs : List V} {ds : List PyData} (n : Nat), DdAll K N H vs ds → DdAll K N H (vs.set n v) (ds.set n d)
  | _, _, _, .nil => .nil
  | _, _, 0, .cons a b => .cons h b
  | _, _, n + 1, .cons a b => .cons a (b.set h n)
theorem DdAll.ints {K : PySem.W.Frag} {N : Addr → Prop} {H : Hp} : ∀ ns : List Int, DdAll K N H (ns.map V.int) (ns.map PyData.int)
  | [] => .nil
  | n :: r => .cons (.int n) (DdAll.ints r)
/-- a dict of ints -/
abbrev kvI (kvs : List (Int × Int)) : List (Key × V) := kvs.map fun p => (Sum.inl p.1, V.int p.2)
abbrev dctD (kvs : List (Int × Int)) : PyData := .dict ((.bool true, .none) :: kvs.map fun p => (PyData.int p.1, PyData.int p.2))
/-- a list that was handed in to be changed, with its address -/
abbrev penD (a : Addr) (ds : List PyData) : PyData := .dict [(.bool false, .int ((a : Nat) : Int)), (.none, .list ds)]
/-- a source of draws: at a the list of the cells' list at b, a number held and a seed -/
abbrev srcD (a b : Addr) (ns : List Int) (x y : Int) : PyData := .dict [(.int ((a : Nat) : Int), .int ((b : Nat) : Int)), (.int x, .int y), (.none, .list (ns.map PyData.int))]
def toI : PyData → Int
  | .int i => i
  | _ => 0
def srcOf : PyData → Option (Nat × Nat × List Int × Int × Int)
  | .dict [(.int a, .int b), (.int x, .int y), (.none, .list l)] => some (a.toNat, b.toNat, l.map toI, x, y)
  | _ => none
theorem map_toI (ns : List Int) : (ns.map PyData.int).map toI = ns := by
  rw [List.map_map]
  exact (List.map_congr_left (fun _ _ => rfl)).trans (List.map_id ns)
@[simp] theorem srcOf_of (a b : Addr) (ns : List Int) (x y : Int) : srcOf (srcD a b ns x y) = some (a, b, ns, x, y) := by
  show some (((a : Nat) : Int).toNat, ((b : Nat) : Int).toNat, (ns.map PyData.int).map toI, x, y) = _
  rw [map_toI, Int.toNat_natCast, Int.toNat_natCast]
/-- a desk: at a the instance, at b the dict that it keeps -/
abbrev deskD (a b : Addr) (m : List (PyData × PyData)) : PyData := .dict [(.int ((a : Nat) : Int), .int ((b : Nat) : Int)), (.bool false, .dict m)]
/-- the address and the address within, of a source of draws or a desk -/
def adrOf : PyData → Option (Nat × Nat)
  | .dict [(.int a, .int b), (.int _, .int _), (.none, .list _)] => some (a.toNat, b.toNat)
  | .dict [(.int a, .int b), (.bool false, .dict _)] => some (a.toNat, b.toNat)
  | _ => none
@[simp] theorem adrOf_src (a b : Addr) (ns : List Int) (x y : Int) : adrOf (srcD a b ns x y) = some (a, b) := by
  show some (((a : Nat) : Int).toNat, ((b : Nat) : Int).toNat) = _
  rw [Int.toNat_natCast, Int.toNat_natCast]
@[simp] theorem adrOf_desk (a b : Addr) (m : List (PyData × PyData)) : adrOf (deskD a b m) = some (a, b) := by
  show some (((a : Nat) : Int).toNat, ((b : Nat) : Int).toNat) = _
  rw [Int.toNat_natCast, Int.toNat_natCast]
/-- what a dict with text keys holds -/
def DdK (K : PySem.W.Frag) (N : Addr → Prop) (H : Hp) (kvs : List (Key × V)) (m : List (PyData × PyData)) : Prop := m.map Prod.fst = kvs.map (fun p => kStr p.1) ∧ DdAll K N H (kvs.map Prod.snd) (m.map Prod.snd)
theorem DdK.keep {K : PySem.W.Frag} {N N' : Addr → Prop} {H H' : Hp} {r : List (Key × V)} {m : List (PyData × PyData)} (h : DdK K N H r m) (k : KeepF N H N' H') : DdK K N' H' r m := ⟨h.1, h.2.keep k⟩
/-- what lies at the address within -/
inductive InU (K : PySem.W.Frag) (N : Addr → Prop) (H : Hp) : PyData → Addr → Prop
  | src {a b : Addr} (ns : List Int) (x y : Int) : H b = some (.lst (ns.map V.int)) → InU K N H (srcD a b ns x y) b
  | desk {a b : Addr} {kvs : List (Key × V)} {m : List (PyData × PyData)} : H b = some (.dK kvs) → DdK K N H kvs m → InU K N H (deskD a b m) b
theorem InU.keep {K : PySem.W.Frag} {N N' : Addr → Prop} {H H' : Hp} {d : PyData} {b : Addr} (h : InU K N H d b) (k : KeepF N H N' H') (e : ∀ o, H b = some o → H' b = some o) : InU K N' H' d b := by
  cases h with
  | src ns x y q => exact .src ns x y (e _ q)
  | desk q kd => exact .desk (e _ q) (kd.keep k)
theorem InU.some {K : PySem.W.Frag} {N : Addr → Prop} {H : Hp} {d : PyData} {b : Addr} (h : InU K N H d b) : ∃ o, H b = Option.some o := by
  cases h with
  | src ns x y q => exact ⟨_, q⟩
  | desk q _ => exact ⟨_, q⟩
theorem InU.nt {K : PySem.W.Frag} {N : Addr → Prop} {H : Hp} {d : PyData} {b : Addr} (h : InU K N H d b) : (∀ xs, H b ≠ Option.some (.tup xs)) ∧ ∀ o xs, H b ≠ Option.some (.frz o (.tup xs)) := by
  cases h with
  | src ns x y q => rw [q]; exact ⟨fun _ z => (by cases z), fun _ _ z => (by cases z)⟩
  | desk q _ => rw [q]; exact ⟨fun _ z => (by cases z), fun _ _ z => (by cases z)⟩
theorem InU.adr {K : PySem.W.Frag} {N : Addr → Prop} {H : Hp} {d : PyData} {b : Addr} (h : InU K N H d b) : ∃ a, adrOf d = Option.some (a, b) := by
  cases h with
  | src ns x y q => exact ⟨_, adrOf_src ..⟩
  | desk q _ => exact ⟨_, adrOf_desk ..⟩
/-- as Dd, but the list itself may be one that is still changed -/
inductive Dw (K : PySem.W.Frag) (N : Addr → Prop) (H : Hp) : V → PyData → Prop
  | dd {v : V} {d : PyData} : Dd K N H v d → Dw K N H v d
  | own {a : Addr} {xs : List V} {ds : List PyData} : H a = some (.lst xs) → DdAll K N H xs ds → Dw K N H (.ref a) (.list ds)
  | dct {a : Addr} (kvs : List (Int × Int)) : H a = some (.dK (kvI kvs)) → Dw K N H (.ref a) (dctD kvs)
  | pen {a : Addr} {xs : List V} {ds : List PyData} : H a = some (.lst xs) → DdAll K N H xs ds → Dw K N H (.ref a) (penD a ds)
  | src {a b : Addr} (ns : List Int) (x y : Int) : H a = some (.lst [.ref b, .int x, .int y]) → Dw K N H (.ref a) (srcD a b ns x y)
  | desk {a b C dx : Addr} (m : List (PyData × PyData)) : H a = some (.ins C dx [("kept", .ref b)]) → PySem.W.nsIn K mainGlobals "Desk" = some (some (.ref C)) → Dw K N H (.ref a) (deskD a b m)
def DW (w : Bool) (K : PySem.W.Frag) (N : Addr → Prop) (H : Hp) (v : V) (d : PyData) : Prop := if w = true then Dw K N H v d else Dd K N H v d
theorem DW.w {w : Bool} {K : PySem.W.Frag} {N : Addr → Prop} {H : Hp} {v : V} {d : PyData} (h : DW w K N H v d) : Dw K N H v d := by
  cases w with
  | false => exact .dd h
  | true => exact h
theorem DW.of {w : Bool} {K : PySem.W.Frag} {N : Addr → Prop} {H : Hp} {v : V} {d : PyData} (h : Dd K N H v d) : DW w K N H v d := by
  cases w with
  | false => exact h
  | true => exact .dd h
theorem Dw.same {K : PySem.W.Frag} {N : Addr → Prop} {H H' : Hp} {v : V} {d : PyData} (h : Dw K N H v d) (s : Same H H') : Dw K N H' v d := by
  cases h with
  | dd h => exact .dd (h.same s)
  | own e h => exact .own (s _ _ e) (h.same s)
  | dct kvs e => exact .dct kvs (s _ _ e)
  | pen e h => exact .pen (s _ _ e) (h.same s)
  | src ns x y e => exact .src ns x y (s _ _ e)
  | desk m e k => exact .desk m (s _ _ e) k
theorem DW.same {w : Bool} {K : PySem.W.Frag} {N : Addr → Prop} {H H' : Hp} {v : V} {d : PyData} (h : DW w K N H v d) (s : Same H H') : DW w K N H' v d := by
  cases w with
  | false => exact Dd.same h s
  | true => exact Dw.same h s
section
variable {K : PySem.W.Frag} {N : Addr → Prop} {H : Hp} {v : V}
theorem Dw.dp {d : PyData} (h : Dw K N H v d) (c : PyData.canLay0 d = true) : Dp K H v d := by
  cases h with
  | dd h => exact h.dp c
  | own e h => exact .lst (SqL.of e) (h.dp (by rw [← lay_lst]; exact c))
  | dct kvs e => simp [PyData.canLay0] at c
  | pen e h => simp [PyData.canLay0] at c
  | src ns x y e => simp [PyData.canLay0] at c
  | desk m e k => simp [PyData.canLay0] at c
theorem Dw.int {i : Int} (h : Dw K N H v (.int i)) : v = .int i := by
  cases h with
  | dd h => cases h; rfl
theorem Dw.bl {b : Bool} (h : Dw K N H v (.bool b)) : v = .bl b := by
  cases h with
  | dd h => cases h; rfl
theorem Dw.str {x : Str} (h : Dw K N H v (.str x)) : v = .str x := by
  cases h with
  | dd h => cases h; rfl
theorem Dw.non (h : Dw K N H v .none) : v = .non := by
  cases h with
  | dd h => cases h; rfl
theorem Dw.tup {ds : List PyData} (h : Dw K N H v (.tuple ds)) : ∃ a xs, v = .ref a ∧ SqT K H a xs ∧ DdAll K N H xs ds := by
  cases h with
  | dd h => cases h with | tup e h => exact ⟨_, _, rfl, e, h⟩
theorem Dw.lst {ds : List PyData} (h : Dw K N H v (.list ds)) : ∃ a xs, v = .ref a ∧ H a = some (.lst xs) ∧ DdAll K N H xs ds := by
  cases h with
  | dd h =>
    cases h with
    | lst e _ h => exact ⟨_, _, rfl, e, h⟩
  | own e h => exact ⟨_, _, rfl, e, h⟩
theorem Dw.scr {ds : List PyData} (h : Dw K N H v (scrD ds)) : ∃ a xs, v = .ref a ∧ SqL K H a xs ∧ DdAll K N H xs ds := by
  cases h with
  | dd h =>
    cases h with
    | scr e h =>
      refine ⟨_, _, rfl, ?_, h⟩
      rcases e with ⟨e, _⟩ | e
      · exact .inl e
      · exact .inr e
end
/-! ### results -/
inductive Rs (α : Type) where
  | bad
  | err (c : Str)
  | ok (a : α)
def Rs.bind {α β : Type} (r : Rs α) (f : α → Rs β) : Rs β := match r with
  | .bad => .bad
  | .err c => .err c
  | .ok a => f a
theorem Rs.bind_ok {α β : Type} (a : α) (f : α → Rs β) : (Rs.ok a).bind f = f a := rfl
theorem Rs.bind_err {α β : Type} (c : Str) (f : α → Rs β) : (Rs.err c : Rs α).bind f = .err c := rfl
theorem Rs.bind_bad {α β : Type} (f : α → Rs β) : (Rs.bad : Rs α).bind f = .bad := rfl
/-- all but D is as it was -/
def SameX (D : Addr) (H H' : Hp) : Prop := ∀ a o, a ≠ D → H a = some o → H' a = some o
/-- names and what they hold: true for a list that is still changed -/
abbrev Ev := List (Option (Bool × PyData))
/-- what a name of one's own holds -/
inductive OwnD (K : PySem.W.Frag) (N : Addr → Prop) (H : Hp) : Addr → HO → PyData → Prop
  | lst {a : Addr} {xs : List V} {ds : List PyData} : DdAll K N H xs ds → OwnD K N H a (.lst xs) (.list ds)
  | dct {a : Addr} (kvs : List (Int × Int)) : OwnD K N H a (.dK (kvI kvs)) (dctD kvs)
  | pen {a : Addr} {xs : List V} {ds : List PyData} : DdAll K N H xs ds → OwnD K N H a (.lst xs) (penD a ds)
  | src {a b : Addr} (ns : List Int) (x y : Int) : OwnD K N H a (.lst [.ref b, .int x, .int y]) (srcD a b ns x y)
  | desk {a b C dx : Addr} (m : List (PyData × PyData)) : PySem.W.nsIn K mainGlobals "Desk" = some (some (.ref C)) → OwnD K N H a (.ins C dx [("kept", .ref b)]) (deskD a b m)
theorem OwnD.keep {K : PySem.W.Frag} {N N' : Addr → Prop} {H H' : Hp} {a : Addr} {o : HO} {d : PyData} (h : OwnD K N H a o d) (k : KeepF N H N' H') : OwnD K N' H' a o d := by
  cases h with
  | lst h => exact .lst (h.keep k)
  | dct kvs => exact .dct kvs
  | pen h => exact .pen (h.keep k)
  | src ns x y => exact .src ns x y
  | desk m k => exact .desk m k
theorem OwnD.same {K : PySem.W.Frag} {N : Addr → Prop} {H H' : Hp} {a : Addr} {o : HO} {d : PyData} (h : OwnD K N H a o d) (s : Same H H') : OwnD K N H' a o d := h.keep (.same s)
/-- no two slots have one address within -/
def One (ρ : Ev) : Prop := ∀ (i j : Nat) (d e : PyData) (a a' b : Nat), ρ[i]? = some (some (true, d)) → ρ[j]? = some (some (true, e)) → adrOf d = some (a, b) → adrOf e = some (a', b) → i = j
/-- the address within a source of draws or a desk -/
def InAt (K : PySem.W.Frag) (B : Addr → Prop) (H0 : Hp) (N : Addr → Prop) (σ : L2.St) (H : Hp) (ρ : Ev) (d : PyData) (b : Addr) : Prop := InU K N H d b ∧ H0 b = none ∧ N b ∧ ¬ B b ∧ ∀ (j : Nat) (e : PyData) (c : Addr), ρ[j]? = some (some (true, e)) → σ[j]? = some (some (.ref c)) → c ≠ b
structure Rep (K : PySem.W.Frag) (B : Addr → Prop) (H0 : Hp) (N : Addr → Prop) (σ : L2.St) (H : Hp) (ρ : Ev) : Prop where
  len : σ.length = ρ.length
  base : Same H0 H
  told : Told N H
  hB : ∀ a, B a → N a
  frz : ∀ (i : Nat) d, ρ[i]? = some (some (false, d)) → ∃ v, σ[i]? = some (some v) ∧ Dd K N H v d
  own : ∀ (i : Nat) d, ρ[i]? = some (some (true, d)) → ∃ a o, σ[i]? = some (some (.ref a)) ∧ H a = some o ∧ OwnD K N H a o d ∧ H0 a = none ∧ N a ∧ ¬ B a
  inj : ∀ (i j : Nat) d e a, ρ[i]? = some (some (true, d)) → ρ[j]? = some (some (true, e)) → σ[i]? = some (some (.ref a)) → σ[j]? = some (some (.ref a)) → i = j
  inn : ∀ (i : Nat) (d : PyData) (a b : Nat), ρ[i]? = some (some (true, d)) → adrOf d = some (a, b) → InAt K B H0 N σ H ρ d b
  one : One ρ
theorem Rep.same {K : PySem.W.Frag} {B : Addr → Prop} {H0 : Hp} {N : Addr → Prop} {σ : L2.St} {H H' : Hp} {ρ : Ev} (r : Rep K B H0 N σ H ρ) (s : Same H H') : Rep K B H0 N σ H' ρ where
  len := r.len
  base := r.base.trans s
  told := r.told.same s
  hB := r.hB
  frz := fun i d h => let ⟨v, e, k⟩ := r.frz i d h; ⟨v, e, k.same s⟩
  own := fun i d h => let ⟨a, o, e1, e3, e4, e5⟩ := r.own i d h; ⟨a, o, e1, s _ _ e3, e4.same s, e5⟩
  inj := r.inj
  inn := fun i d a b h hb => let ⟨e1, e2⟩ := r.inn i d a b h hb; ⟨e1.keep (.same s) (s _), e2⟩
  one := r.one
theorem Rep.slot {K : PySem.W.Frag} {B : Addr → Prop} {H0 : Hp} {N : Addr → Prop} {σ : L2.St} {H : Hp} {ρ : Ev} (r : Rep K B H0 N σ H ρ) {i : Nat} {b : Bool} {d : PyData} (h : ρ[i]? = some (some (b, d))) : ∃ v, σ[i]? = some (some v) ∧ Dw K N H v d := by
  cases b with
  | false =>
    obtain ⟨v, e, k⟩ := r.frz i d h
    exact ⟨v, e, .dd k⟩
  | true =>
    obtain ⟨a, o, e1, e3, e4, _⟩ := r.own i d h
    cases e4 with
    | lst e4 => exact ⟨_, e1, .own e3 e4⟩
    | dct kvs => exact ⟨_, e1, .dct kvs e3⟩
    | pen e4 => exact ⟨_, e1, .pen e3 e4⟩
    | src ns x y => exact ⟨_, e1, .src ns x y e3⟩
    | desk m k => exact ⟨_, e1, .desk m e3 k⟩
theorem OwnD.adr {K : PySem.W.Frag} {N : Addr → Prop} {H : Hp} {a : Addr} {o : HO} {d : PyData} {a' b : Nat} (h : OwnD K N H a o d) (e : adrOf d = Option.some (a', b)) : a' = a := by
  cases h with
  | lst _ => cases e
  | dct _ => cases e
  | pen _ => cases e
  | src ns x y =>
    rw [adrOf_src] at e
    cases e
    rfl
  | desk m k =>
    rw [adrOf_desk] at e
    cases e
    rfl
theorem OwnD.nt {K : PySem.W.Frag} {N : Addr → Prop} {H : Hp} {a : Addr} {o : HO} {d : PyData} (h : OwnD K N H a o d) : (∀ xs, o ≠ .tup xs) ∧ ∀ u xs, o ≠ .frz u (.tup xs) := by
  cases h <;> exact ⟨fun _ z => (by cases z), fun _ _ z => (by cases z)⟩
/-- a source of draws or a desk, all of it -/
structure TwoD (K : PySem.W.Frag) (N : Addr → Prop) (H : Hp) (a b : Addr) (d : PyData) : Prop where
  adr : adrOf d = Option.some (a, b)
  at_ : ∃ o, H a = Option.some o ∧ OwnD K N H a o d
  inn : InU K N H d b
theorem TwoD.same {K : PySem.W.Frag} {N : Addr → Prop} {H H' : Hp} {a b : Addr} {d : PyData} (h : TwoD K N H a b d) (s : Same H H') : TwoD K N H' a b d := ⟨h.adr, let ⟨o, e, k⟩ := h.at_; ⟨o, s _ _ e, k.same s⟩, h.inn.keep (.same s) (s _)⟩
/-! ### the text's context -/
structure Gx where
  P : Program
  w : World
  K : PySem.W.Frag
  mg : Str → Option Value
  base : Heap
  cls : Str → Addr
structure Sx extends Gx where
  k : Nat
  N : List Str
  sc : Scope
  fc : Str → Bool
structure Cs (S : Sx) (X : Cx) (E : XK) : Prop where
  p : X.prog = S.P
  w : X.w = S.w
  K : X.K = S.K
  mg : X.mg = S.mg
  base : X.base = S.base
  N : X.N = S.N
  sc : X.env.scope = S.sc
  calm : X.calm = true
  room : Room S.k X.A
  tk : Takes X fun c d _ H => E c d H
  po : PassesOwn (model X.prog X.w) X.A X.env X.xe
  fn : ∀ x, S.fc x = true → X.fn x = true
  top : S.fc "" = true → X.stack = X.env :: X.outer ∧ X.env.frame = some X.env.locals
/-- what is behind an expression -/
def EE (w : Bool) (S : Sx) (N : Addr → Prop) (H : Hp) (Q : VK) (E : XK) : Rs PyData → Prop
  | .bad => False
  | .err c => ∀ H', Same H H' → E (.ref (S.cls c)) none H'
  | .ok d => ∀ v H', Same H H' → DW w S.K N H' v d → Q v H'
def De (w : Bool) (S : Sx) (e : Expr) (f : Ev → Rs PyData) : Prop :=
  ∃ t : XK → TE, (∀ X E, Cs S X E → PE X e (t E)) ∧ ∀ B H0 N σ H ρ Q E, Rep S.K B H0 N σ H ρ → EE w S N H Q E (f ρ) → t E σ H Q
theorem EE.mono {w w' : Bool} {S : Sx} {N : Addr → Prop} {H : Hp} {Q : VK} {E : XK} {r : Rs PyData} (h : EE w S N H Q E r) (i : ∀ H v d, DW w' S.K N H v d → DW w S.K N H v d) : EE w' S N H Q E r := by
  cases r with
  | bad => exact h
  | err c => exact h
  | ok d => exact fun v H' s k => h v H' s (i _ _ _ k)
theorem De.any {w : Bool} {S : Sx} {e : Expr} {f : Ev → Rs PyData} (h : De false S e f) : De w S e f := by
  obtain ⟨t, h1, h2⟩ := h
  exact ⟨t, h1, fun B H0 N σ H ρ Q E r k => h2 B H0 N σ H ρ Q E r (k.mono fun _ _ _ z => DW.of z)⟩
/-- argument lists -/
def EA (w : Bool) (S : Sx) (N : Addr → Prop) (H : Hp) (Q : List V → Hp → Prop) (E : XK) : Rs (List PyData) → Prop
  | .bad => False
  | .err c => ∀ H', Same H H' → E (.ref (S.cls c)) none H'
  | .ok ds => ∀ vs H', Same H H' → Paired (DW w S.K N H') vs ds → Q vs H'
def Da (w : Bool) (S : Sx) (es : List Expr) (f : Ev → Rs (List PyData)) : Prop :=
  ∃ t : XK → TA, (∀ X E, Cs S X E → PA X es (t E)) ∧ (∀ B H0 N σ H ρ Q E, Rep S.K B H0 N σ H ρ → EA w S N H Q E (f ρ) → t E σ H Q) ∧ ∀ ρ ds, f ρ = .ok ds → ds.length = es.length
def aNil : Ev → Rs (List PyData) := fun _ => .ok []
def aCons (f : Ev → Rs PyData) (g : Ev → Rs (List PyData)) : Ev → Rs (List PyData) := fun ρ => (f ρ).bind fun d => (g ρ).bind fun ds => .ok (d :: ds)
theorem da_nil {w : Bool} {S : Sx} : Da w S [] aNil := ⟨fun _ => tNil, fun X E _ => pa_nil, fun B H0 N σ H ρ Q E r k => k [] H (Same.refl _) .nil, fun ρ ds e => by cases e; rfl⟩
theorem da_cons {w : Bool} {S : Sx} {e : Expr} {es : List Expr} {f : Ev → Rs PyData} {g : Ev → Rs (List PyData)} (h : De w S e f) (hs : Da w S es g) (hst : ∀ env, starEach (e :: es) env = (false, eval e env) :: starEach es env := by intro _; rfl) : Da w S (e :: es) (aCons f g) := by
  obtain ⟨t, h1, h2⟩ := h
  obtain ⟨u, h3, h4, h5⟩ := hs
  refine ⟨fun E => tCons (t E) (u E), fun X E c => pa_cons (h1 X E c) (h3 X E c) (hst _), fun B H0 N σ H ρ Q E r k => ?_, fun ρ ds k => ?_⟩
  rotate_left
  · unfold aCons at k
    cases e1 : f ρ with
    | bad => rw [e1] at k; cases k
    | err c => rw [e1] at k; cases k
    | ok d =>
      rw [e1, Rs.bind_ok] at k
      cases e2 : g ρ with
      | bad => rw [e2] at k; cases k
      | err c => rw [e2] at k; cases k
      | ok es' =>
        rw [e2, Rs.bind_ok] at k
        cases k
        rw [List.length_cons, List.length_cons, h5 ρ es' e2]
  refine h2 B H0 N σ H ρ _ E r ?_
  unfold aCons at k
  cases e1 : f ρ with
  | bad => rw [e1] at k; exact k
  | err c => rw [e1] at k; exact k
  | ok d =>
    intro v H1 s1 k1
    rw [e1, Rs.bind_ok] at k
    refine h4 B H0 N σ H1 ρ _ E (r.same s1) ?_
    cases e2 : g ρ with
    | bad => rw [e2] at k; exact k
    | err c => rw [e2] at k; exact fun H' s' => k H' (s1.trans s')
    | ok ds =>
      rw [e2] at k
      exact fun vs H2 s2 k2 => k _ H2 (s1.trans s2) (.cons (k1.same s2) k2)
/-- tests -/
def ET (S : Sx) (H : Hp) (Q : Bool → Hp → Prop) (E : XK) : Rs Bool → Prop
  | .bad => False
  | .err c => ∀ H', Same H H' → E (.ref (S.cls c)) none H'
  | .ok b => ∀ H', Same H H' → Q b H'
def Dt (S : Sx) (e : Expr) (f : Ev → Rs Bool) : Prop :=
  ∃ t : XK → TT, (∀ X E, Cs S X E → PT X e (t E)) ∧ ∀ B H0 N σ H ρ Q E, Rep S.K B H0 N σ H ρ → ET S H Q E (f ρ) → t E σ H Q
def Dwt (S : Sx) (e : Expr) (f : Ev → Rs Bool) : Prop :=
  ∃ t : XK → TT, (∀ X E, Cs S X E → PW X e (t E)) ∧ ∀ B H0 N σ H ρ Q E, Rep S.K B H0 N σ H ρ → ET S H Q E (f ρ) → t E σ H Q
/-! ### statements -/
inductive Out where
  | nx (ρ : Ev)
  | ret (d : PyData)
  | brk (ρ : Ev)
  | cnt (ρ : Ev)
  | retp (d p : PyData)
def ES (S : Sx) (B : Addr → Prop) (H0 : Hp) (N : Addr → Prop) (H : Hp) (D : Ends) (E : XK) : Rs Out → Prop
  | .bad => False
  | .err c => ∀ H', Same H0 H' → E (.ref (S.cls c)) none H'
  | .ok (.nx ρ) => ∀ N' σ' H', Rep S.K B H0 N' σ' H' ρ → KeepF N H N' H' → D.nx σ' H'
  | .ok (.ret d) => ∀ v H', Same H0 H' → Dd S.K B H' v d → D.rt v H'
  | .ok (.brk ρ) => ∀ N' σ' H', Rep S.K B H0 N' σ' H' ρ → KeepF N H N' H' → D.bk σ' H'
  | .ok (.cnt ρ) => ∀ N' σ' H', Rep S.K B H0 N' σ' H' ρ → KeepF N H N' H' → D.ct σ' H'
  | .ok (.retp d p) => (∀ v H' a xs ds, p = penD a ds → Same H0 H' → H' a = some (.lst xs) → DdAll S.K (fun c => B c ∨ c = a) H' xs ds → Dd S.K (fun c => B c ∨ c = a) H' v d → D.rt v H') ∧
      (∀ v H' a b, Same H0 H' → TwoD S.K (fun c => B c ∨ c = a ∨ c = b) H' a b p → Dd S.K (fun c => B c ∨ c = a ∨ c = b) H' v d → D.rt v H') ∧
      (∀ v H' a kvs m, p = kepD a m → SameX a H0 H' → H' a = some (.dK kvs) → DdK S.K (fun c => B c ∨ c = a) H' kvs m → Dd S.K (fun c => B c ∨ c = a) H' v d → D.rt v H')
def Ds (S : Sx) (s : Stmt) (g : Ev → Rs Out) : Prop :=
  ∃ t : XK → TS, (∀ X E, Cs S X E → PS X s (t E)) ∧ ∀ B H0 N σ H ρ D E, Rep S.K B H0 N σ H ρ → ES S B H0 N H D E (g ρ) → t E D σ H
def Dss (S : Sx) (s : List Stmt) (g : Ev → Rs Out) : Prop :=
  ∃ t : XK → TS, (∀ X E, Cs S X E → PSs X s (t E)) ∧ ∀ B H0 N σ H ρ D E, Rep S.K B H0 N σ H ρ → ES S B H0 N H D E (g ρ) → t E D σ H
def sNil : Ev → Rs Out := fun ρ => .ok (.nx ρ)
def sSeq (a b : Ev → Rs Out) : Ev → Rs Out := fun ρ => (a ρ).bind fun
  | .nx ρ' => b ρ'
  | o => .ok o
theorem dss_nil {S : Sx} : Dss S [] sNil := ⟨fun _ => tNext, fun X E _ => pss_nil, fun B H0 N σ H ρ D E r k => k N σ H r .refl⟩
theorem dss_one {S : Sx} {s : Stmt} {g : Ev → Rs Out} (h : Ds S s g) : Dss S [s] g := by
  obtain ⟨t, h1, h2⟩ := h
  exact ⟨t, fun X E c => pss_one (h1 X E c), h2⟩
theorem dss_cons {S : Sx} {s : Stmt} {ss : List Stmt} {a b : Ev → Rs Out} (h : Ds S s a) (hs : Dss S ss b) : Dss S (s :: ss) (sSeq a b) := by
  obtain ⟨t, h1, h2⟩ := h
  obtain ⟨u, h3, h4⟩ := hs
  refine ⟨fun E => tSeq (t E) (u E), fun X E c => pss_cons (h1 X E c) (h3 X E c), fun B H0 N σ H ρ D E r k => ?_⟩
  refine h2 B H0 N σ H ρ _ E r ?_
  unfold sSeq at k
  cases e1 : a ρ with
  | bad => rw [e1] at k; exact k
  | err c => rw [e1] at k; exact k
  | ok o =>
    rw [e1, Rs.bind_ok] at k
    cases o with
    | ret d => exact k
    | retp d p => exact k
    | brk ρ' => exact k
    | cnt ρ' => exact k
    | nx ρ' =>
      intro N' σ' H' r' kf
      refine h4 B H0 N' σ' H' ρ' D E r' ?_
      have k : ES S B H0 N H D E (b ρ') := k
      cases e2 : b ρ' with
      | bad => rw [e2] at k; exact k
      | err c => rw [e2] at k; exact k
      | ok o =>
        rw [e2] at k
        cases o with
        | ret d => exact k
        | retp d p => exact k
        | nx ρ2 => exact fun N2 σ2 H2 r2 k2 => k N2 σ2 H2 r2 (kf.trans k2)
        | brk ρ2 => exact fun N2 σ2 H2 r2 k2 => k N2 σ2 H2 r2 (kf.trans k2)
        | cnt ρ2 => exact fun N2 σ2 H2 r2 k2 => k N2 σ2 H2 r2 (kf.trans k2)
def lim : Nat := 10000000
theorem lim_line : lim ≤ sizeLine := by decide
section
variable {S : Sx} {w : Bool}
/-! ### names and constants -/
abbrev Gn (S : Sx) (x : Str) : Prop := S.sc.names.lookup x = some .globalImplicit
def eVar (i : Nat) : Ev → Rs PyData := fun ρ => match ρ[i]? with
  | some (some (false, d)) => .ok d
  | _ => .bad
def eVarR (i : Nat) : Ev → Rs PyData := fun ρ => match ρ[i]? with
  | some (some (_, d)) => .ok d
  | _ => .bad
def eC (d : PyData) : Ev → Rs PyData := fun _ => .ok d
theorem vis_of {X : Cx} {E : XK} (c : Cs S X E) {x : Str} (h : Vis S.sc x) : Vis X.env.scope x := by rw [c.sc]; exact h
theorem gl_of {X : Cx} {E : XK} (c : Cs S X E) {x : Str} (h : S.sc.names.lookup x = some .globalImplicit) : Gl X x := by
  show X.env.scope.names.lookup x = _
  rw [c.sc]
  exact h
theorem n_of {X : Cx} {E : XK} (c : Cs S X E) {i : Nat} {x : Str} (h : S.N[i]? = some x) : X.N[i]? = some x := by rw [c.N]; exact h
theorem de_var (i : Nat) {x : Str} {pos : Pos} (hN : S.N[i]? = some x := by rfl) (hv : Vis S.sc x := by first | exact Or.inl rfl | exact Or.inr (Or.inl rfl) | exact Or.inr (Or.inr rfl)) (hd : (x == ("__debug__" : Str)) = false := by decide) (hcd : (x == ("__classdict__" : Str)) = false := by decide) : De w S (.Name x pos) (eVar i) := by
  refine De.any ⟨fun _ => tVar i, fun X E c => pe_var (n_of c hN) (vis_of c hv) hd hcd, fun B H0 N σ H ρ Q E r k => ?_⟩
  unfold eVar at k
  split at k
  · rename_i d e
    obtain ⟨v, e1, e2⟩ := r.frz i d e
    exact ⟨v, e1, k v H (Same.refl _) e2⟩
  · exact k.elim
theorem de_varR (i : Nat) {x : Str} {pos : Pos} (hN : S.N[i]? = some x := by rfl) (hv : Vis S.sc x := by first | exact Or.inl rfl | exact Or.inr (Or.inl rfl) | exact Or.inr (Or.inr rfl)) (hd : (x == ("__debug__" : Str)) = false := by decide) (hcd : (x == ("__classdict__" : Str)) = false := by decide) : De true S (.Name x pos) (eVarR i) := by
  refine ⟨fun _ => tVar i, fun X E c => pe_var (n_of c hN) (vis_of c hv) hd hcd, fun B H0 N σ H ρ Q E r k => ?_⟩
  unfold eVarR at k
  split at k
  · rename_i b d e
    obtain ⟨v, e1, e2⟩ := r.slot e
    exact ⟨v, e1, k v H (Same.refl _) e2⟩
  · exact k.elim
theorem de_int {i : Int} {j : Nat} {pos : Pos} : De w S (.Constant (.int i) j pos) (eC (.int i)) := De.any ⟨fun _ => tC (.int i), fun X E c => pe_int, fun B H0 N σ H ρ Q E r k => k _ H (Same.refl _) (.int i)⟩
theorem de_bl {b : Bool} {j : Nat} {pos : Pos} : De w S (.Constant (.bool b) j pos) (eC (.bool b)) := De.any ⟨fun _ => tC (.bl b), fun X E c => pe_bl, fun B H0 N σ H ρ Q E r k => k _ H (Same.refl _) (.bl b)⟩
theorem de_non {j : Nat} {pos : Pos} : De w S (.Constant .none j pos) (eC .none) := De.any ⟨fun _ => tC .non, fun X E c => pe_non, fun B H0 N σ H ρ Q E r k => k _ H (Same.refl _) .non⟩
theorem de_str {x : Str} {j : Nat} {pos : Pos} : De w S (.Constant (.str x) j pos) (eC (.str x)) := De.any ⟨fun _ => tC (.str x), fun X E c => pe_str, fun B H0 N σ H ρ Q E r k => k _ H (Same.refl _) (.str x)⟩
/-- a whole number of the module -/
theorem de_globI {x : Str} {i : Int} {t : Tok} {pos : Pos} (hm : S.mg x = some (.int i t)) (hg : S.sc.names.lookup x = some .globalImplicit := by rfl) (hd : (x == ("__debug__" : Str)) = false := by decide) : De w S (.Name x pos) (eC (.int i)) :=
  De.any ⟨fun _ => tC (.int i), fun X E c => pe_glob (gl_of c hg) (by rw [c.mg]; exact hm) ⟨t, rfl⟩ hd, fun B H0 N σ H ρ Q E r k => k _ H (Same.refl _) (.int i)⟩
/-! ### two operands -/
def e2 (g : PyData → PyData → Rs PyData) (fa fb : Ev → Rs PyData) : Ev → Rs PyData := fun ρ => (fa ρ).bind fun d => (fb ρ).bind fun e => g d e
def OpD (S : Sx) (w : Bool) (r : R2) (g : PyData → PyData → Rs PyData) : Prop := ∀ N H x y d e Q E, Told N H → Dw S.K N H x d → Dw S.K N H y e → EE w S N H Q E (g d e) → r x y H Q
theorem EE.from {N : Addr → Prop} {H H1 : Hp} {Q : VK} {E : XK} {r : Rs PyData} (s : Same H H1) (k : EE w S N H Q E r) : EE w S N H1 Q E r := by
  cases r with
  | bad => exact k
  | err c => exact fun H' s' => k H' (s.trans s')
  | ok d => exact fun v H' s' kk => k v H' (s.trans s') kk
theorem de_two {a b e : Expr} {r : R2} {g : PyData → PyData → Rs PyData} {fa fb : Ev → Rs PyData} (mk : ∀ X E, Cs S X E → ∀ ta tb, PE X a ta → PE X b tb → PE X e (tOp r ta tb)) (ho : OpD S w r g) (ha : De true S a fa) (hb : De true S b fb) : De w S e (e2 g fa fb) := by
  obtain ⟨t, h1, h2⟩ := ha
  obtain ⟨u, h3, h4⟩ := hb
  refine ⟨fun E => tOp r (t E) (u E), fun X E c => mk X E c _ _ (h1 X E c) (h3 X E c), fun B H0 N σ H ρ Q E rp k => ?_⟩
  refine h2 B H0 N σ H ρ _ E rp ?_
  unfold e2 at k
  cases e1 : fa ρ with
  | bad => rw [e1] at k; exact k
  | err c => rw [e1] at k; exact k
  | ok d =>
    intro v H1 s1 k1
    rw [e1, Rs.bind_ok] at k
    refine h4 B H0 N σ H1 ρ _ E (rp.same s1) ?_
    cases e2 : fb ρ with
    | bad => rw [e2] at k; exact k
    | err c => rw [e2] at k; exact fun H' s' => k H' (s1.trans s')
    | ok e =>
      rw [e2, Rs.bind_ok] at k
      exact fun y H2 s2 k2 => ho N H2 v y d e Q E ((rp.same s1).same s2).told (DW.w (k1.same s2)) (DW.w k2) (k.from (s1.trans s2))
theorem op_or {X : Cx} {f : Value → Value → Sem Value} {r r' : R2} (h : OpR X f r) (h' : OpR X f r') : OpR X f (fun x y H Q => r x y H Q ∨ r' x y H Q) := by
  intro pins s σ H x y v u Q I rx ry q
  rcases q with q | q
  · exact h pins s σ H x y v u Q I rx ry q
  · exact h' pins s σ H x y v u Q I rx ry q
theorem new_of {N : Addr → Prop} {H : Hp} {p : Addr} (t : Told N H) (h : H p = none) : ¬ N p := fun z => t p z h
theorem dd_tup {N : Addr → Prop} {H : Hp} {p : Addr} {xs : List V} {ds : List PyData} (h : H p = none) (k : DdAll S.K N H xs ds) : Dd S.K N (upd H p (.tup xs)) (.ref p) (.tuple ds) := .tup (SqT.of upd_same) (k.same (same_upd h))
theorem dd_lst {N : Addr → Prop} {H : Hp} {p : Addr} {xs : List V} {ds : List PyData} (t : Told N H) (h : H p = none) (k : DdAll S.K N H xs ds) : Dd S.K N (upd H p (.lst xs)) (.ref p) (.list ds) := .lst upd_same (new_of t h) (k.same (same_upd h))
/-- a + b -/
noncomputable def addD : PyData → PyData → Rs PyData
  | .int i, .int j => .ok (.int (i + j))
  | .tuple a, .tuple b => @ite _ (a.length + b.length ≤ lim) (Classical.propDecidable _) (.ok (.tuple (a ++ b))) (.bad)
  | .list a, .list b => @ite _ (a.length + b.length ≤ lim) (Classical.propDecidable _) (.ok (.list (a ++ b))) (.bad)
  | .str a, .str b => @ite _ (a.length + b.length ≤ lim) (Classical.propDecidable _) (.ok (.str (a ++ b))) (.bad)
  | _, _ => .bad
def rAddA (K : PySem.W.Frag) : R2 := fun x y H Q => (((rI0 fun i j => .int (i + j)) x y H Q ∨ rCatA K x y H Q) ∨ rCat x y H Q) ∨ (∃ i j, x = .str i ∧ y = .str j ∧ i.length + j.length ≤ sizeLine ∧ Q (.str (i ++ j)) H)
theorem op_addA {X : Cx} : OpR X (binaryOp .Add) (rAddA X.K) := op_or (op_or (op_or op_add op_catA) op_cat) op_add_str
theorem opD_add : OpD S w (rAddA S.K) addD := by
  intro N H x y d e Q E t hx hy k
  unfold addD at k
  split at k
  · rename_i i j
    cases hx.int
    cases hy.int
    exact .inl (.inl (.inl ⟨i, j, rfl, rfl, k _ H (Same.refl _) (.of (.int _))⟩))
  · rename_i a b
    split at k
    · rename_i hl
      obtain ⟨p, xs, rfl, e1, k1⟩ := hx.tup
      obtain ⟨q, ys, rfl, e2, k2⟩ := hy.tup
      have hz : xs.length + ys.length ≤ sizeLine := by rw [k1.len, k2.len]; exact Nat.le_trans hl lim_line
      refine .inl (.inl (.inr ⟨p, q, xs, ys, rfl, rfl, e1, e2, hz, fun z => ?_, fun _ z => ?_, fun _ _ c hc => ?_⟩))
      · subst z
        cases k1
        exact k _ H (Same.refl _) (.of (.tup e2 k2))
      · subst z
        cases k2
        rw [List.append_nil] at k
        exact k _ H (Same.refl _) (.of (.tup e1 k1))
      · exact k _ _ (same_upd hc) (.of (dd_tup hc (k1.app k2)))
    · exact k.elim
  · rename_i a b
    split at k
    · rename_i hl
      obtain ⟨p, xs, rfl, e1, k1⟩ := hx.lst
      obtain ⟨q, ys, rfl, e2, k2⟩ := hy.lst
      have hz : xs.length + ys.length ≤ sizeLine := by rw [k1.len, k2.len]; exact Nat.le_trans hl lim_line
      exact .inl (.inr ⟨p, q, xs, ys, rfl, rfl, e1, e2, hz, fun c hc => k _ _ (same_upd hc) (.of (dd_lst t hc (k1.app k2)))⟩)
    · exact k.elim
  · rename_i a b
    split at k
    · rename_i hl
      cases hx.str
      cases hy.str
      exact .inr ⟨a, b, rfl, rfl, Nat.le_trans hl lim_line, k _ H (Same.refl _) (.of (.str _))⟩
    · exact k.elim
  · exact k.elim
theorem de_add {a b : Expr} {pos : Pos} {fa fb : Ev → Rs PyData} (ha : De true S a fa) (hb : De true S b fb) : De w S (.BinOp a .Add b pos) (e2 addD fa fb) :=
  de_two (fun X E c ta tb h1 h2 => pe_op (by rw [← c.K]; exact op_addA) h1 h2) opD_add ha hb
/-- whole numbers alone -/
noncomputable def intD2 (C : Int → Int → Bool) (g : Int → Int → PyData) : PyData → PyData → Rs PyData
  | .int i, .int j => @ite _ (C i j = true) (Classical.propDecidable _) (.ok (g i j)) (.bad)
  | _, _ => .bad
theorem opD_int {C : Int → Int → Bool} {Cp : Int → Int → Prop} {g : Int → Int → PyData} {gv : Int → Int → V} (hC : ∀ i j, C i j = true → Cp i j) (hg : ∀ i j N H, Dd S.K N H (gv i j) (g i j)) : OpD S w (rI Cp gv) (intD2 C g) := by
  intro N H x y d e Q E t hx hy k
  unfold intD2 at k
  split at k
  · rename_i i j
    split at k
    · rename_i hc
      cases hx.int
      cases hy.int
      exact ⟨i, j, rfl, rfl, hC i j hc, k _ H (Same.refl _) (.of (hg i j N H))⟩
    · exact k.elim
  · exact k.elim
def intD0 (g : Int → Int → PyData) : PyData → PyData → Rs PyData
  | .int i, .int j => .ok (g i j)
  | _, _ => .bad
theorem opD_int0 {g : Int → Int → PyData} {gv : Int → Int → V} (hg : ∀ i j N H, Dd S.K N H (gv i j) (g i j)) : OpD S w (rI0 gv) (intD0 g) := by
  intro N H x y d e Q E t hx hy k
  unfold intD0 at k
  split at k
  · rename_i i j
    cases hx.int
    cases hy.int
    exact ⟨i, j, rfl, rfl, k _ H (Same.refl _) (.of (hg i j N H))⟩
  · exact k.elim
def subD : PyData → PyData → Rs PyData := intD0 fun i j => .int (i - j)
/-- a * b: numbers of at most nine thousand bits; a tuple or a text some times -/
def wide (i : Int) : Bool := decide (i.natAbs.log2 < 9000)
def mulOkB (z : Str) (k : Int) : Bool := decide (0 ≤ k) && decide (k ≤ 1000) && decide (z.length ≤ 1000)
theorem mulOk_of {z : Str} {k : Int} (h : mulOkB z k = true) : MulOk z k := by
  unfold mulOkB at h
  simp only [Bool.and_eq_true, decide_eq_true_eq] at h
  obtain ⟨⟨h0, h1⟩, h2⟩ := h
  refine ⟨?_, fun hn _ => ?_, fun hn _ => ?_⟩
  · rw [decide_eq_false (by omega), decide_eq_false (by omega)]
    rfl
  · have : (1000 : Int) ≤ (2 ^ 63 - 1) / k := by
      rw [Int.le_ediv_iff_mul_le (by omega)]
      omega
    omega
  · have : z.length * k.toNat ≤ 1000 * 1000 := Nat.mul_le_mul h2 (by omega)
    show decide (z.length * k.toNat > sizeLine) = false
    refine decide_eq_false ?_
    have hs : sizeLine = 16777216 := sizeLine_eq
    omega
noncomputable def mulD : PyData → PyData → Rs PyData
  | .int i, .int j => @ite _ ((wide i && wide j) = true) (Classical.propDecidable _) (.ok (.int (i * j))) (.bad)
  | .tuple a, .int k => @ite _ (a ≠ [] ∧ 0 ≤ k ∧ k ≤ 1000 ∧ a.length ≤ 1000) (Classical.propDecidable _) (.ok (.tuple (List.replicate k.toNat a).flatten)) (.bad)
  | .str z, .int k => @ite _ (mulOkB z k = true) (Classical.propDecidable _) (.ok (.str (Txt.mul z k))) (.bad)
  | _, _ => .bad
def rMulA (K : PySem.W.Frag) : R2 := fun x y H Q => ((rI CMulW fun i j => .int (i * j)) x y H Q ∨ rRepA K x y H Q) ∨ rMulS x y H Q
theorem op_mulA {X : Cx} : OpR X (binaryOp .Mult) (rMulA X.K) := op_or (op_or op_mulW op_repA) op_mulS
theorem wide_lt {i : Int} (h : wide i = true) : i.natAbs < 2 ^ 9000 := by
  have h' : i.natAbs.log2 < 9000 := of_decide_eq_true h
  by_cases h0 : i.natAbs = 0
  · rw [h0]; exact Nat.two_pow_pos _
  · exact (Nat.log2_lt h0).mp h'
theorem DdAll.rep {K : PySem.W.Frag} {N : Addr → Prop} {H : Hp} {xs : List V} {ds : List PyData} (h : DdAll K N H xs ds) : ∀ n : Nat, DdAll K N H (List.replicate n xs).flatten (List.replicate n ds).flatten
  | 0 => .nil
  | n + 1 => by
    rw [List.replicate_succ, List.replicate_succ, List.flatten_cons, List.flatten_cons]
    exact h.app (h.rep n)
theorem opD_mul : OpD S w (rMulA S.K) mulD := by
  intro N H x y d e Q E t hx hy k
  unfold mulD at k
  split at k
  · rename_i i j
    split at k
    · rename_i hc
      rw [Bool.and_eq_true] at hc
      cases hx.int
      cases hy.int
      exact .inl (.inl ⟨i, j, rfl, rfl, wide_mul (wide_lt hc.1) (wide_lt hc.2) (by decide) (by decide) (by decide), k _ H (Same.refl _) (.of (.int _))⟩)
    · exact k.elim
  · rename_i a n
    split at k
    · rename_i hc
      obtain ⟨p, xs, rfl, e1, k1⟩ := hx.tup
      cases hy.int
      refine .inl (.inr ⟨p, n, xs, rfl, rfl, e1, fun z => ?_, hc.2.1, hc.2.2.1, by rw [k1.len]; exact hc.2.2.2, fun z => ?_, fun _ c hcc => k _ _ (same_upd hcc) (.of (dd_tup hcc (k1.rep _)))⟩)
      · subst z
        cases k1
        exact hc.1 rfl
      · subst z
        have e : (List.replicate (1 : Int).toNat a).flatten = a := by
          show (List.replicate 1 a).flatten = a
          simp
        rw [e] at k
        exact k _ H (Same.refl _) (.of (.tup e1 k1))
    · exact k.elim
  · rename_i z n
    split at k
    · rename_i hc
      cases hx.str
      cases hy.int
      exact .inr ⟨z, n, rfl, rfl, mulOk_of hc, k _ H (Same.refl _) (.of (.str _))⟩
    · exact k.elim
  · exact k.elim
theorem de_mul {a b : Expr} {pos : Pos} {fa fb : Ev → Rs PyData} (ha : De true S a fa) (hb : De true S b fb) : De w S (.BinOp a .Mult b pos) (e2 mulD fa fb) :=
  de_two (fun X E c ta tb h1 h2 => pe_op (by rw [← c.K]; exact op_mulA) h1 h2) opD_mul ha hb
noncomputable def modD : PyData → PyData → Rs PyData := intD2 (fun _ j => decide (0 < j)) fun i j => .int (i % j)
theorem de_mod {a b : Expr} {pos : Pos} {fa fb : Ev → Rs PyData} (ha : De true S a fa) (hb : De true S b fb) : De w S (.BinOp a .Mod b pos) (e2 modD fa fb) :=
  de_two (fun X E c ta tb h1 h2 => pe_op op_mod h1 h2) (opD_int (fun i j h => of_decide_eq_true h) fun i j N H => .int _) ha hb
noncomputable def divD : PyData → PyData → Rs PyData := intD2 (fun _ j => decide (0 < j) && wide j) fun i j => .int (i / j)
theorem de_div {a b : Expr} {pos : Pos} {fa fb : Ev → Rs PyData} (ha : De true S a fa) (hb : De true S b fb) : De w S (.BinOp a .FloorDiv b pos) (e2 divD fa fb) :=
  de_two (fun X E c ta tb h1 h2 => pe_op op_fdivW h1 h2) (opD_int (fun i j h => by
    rw [Bool.and_eq_true] at h
    exact ⟨of_decide_eq_true h.1, of_decide_eq_true h.2⟩) fun i j N H => .int _) ha hb
noncomputable def powD : PyData → PyData → Rs PyData := intD2 (fun i j => decide (0 ≤ j) && decide (j ≤ 1000000) && decide (i.natAbs < 2 ^ 64)) fun i j => .int (i ^ j.toNat)
theorem de_pow {a b : Expr} {pos : Pos} {fa fb : Ev → Rs PyData} (ha : De true S a fa) (hb : De true S b fb) : De w S (.BinOp a .Pow b pos) (e2 powD fa fb) :=
  de_two (fun X E c ta tb h1 h2 => pe_op op_pow h1 h2) (opD_int (fun i j h => by
    simp only [Bool.and_eq_true, decide_eq_true_eq] at h
    exact ⟨h.1.1, h.1.2, h.2⟩) fun i j N H => .int _) ha hb
/-! ### comparisons -/
noncomputable def eqD (d e : PyData) : Rs PyData := @ite _ ((SeqAt.shaped d && SeqAt.shaped e) = true) (Classical.propDecidable _) (.ok (.bool (PyData.eqv d e))) (.bad)
noncomputable def neD (d e : PyData) : Rs PyData := @ite _ ((SeqAt.shaped d && SeqAt.shaped e) = true) (Classical.propDecidable _) (.ok (.bool (!PyData.eqv d e))) (.bad)
theorem shaped_lay {d : PyData} (h : SeqAt.shaped d = true) : PyData.canLay0 d = true := by
  unfold SeqAt.shaped at h
  rw [Bool.and_eq_true] at h
  exact h.1
theorem opD_eq : OpD S w (rEqD S.K) eqD := by
  intro N H x y d e Q E t hx hy k
  unfold eqD at k
  split at k
  · rename_i hc
    rw [Bool.and_eq_true] at hc
    exact ⟨d, e, hx.dp (shaped_lay hc.1), hy.dp (shaped_lay hc.2), hc.1, hc.2, k _ H (Same.refl _) (.of (.bl _))⟩
  · exact k.elim
theorem opD_ne : OpD S w (rNeD S.K) neD := by
  intro N H x y d e Q E t hx hy k
  unfold neD at k
  split at k
  · rename_i hc
    rw [Bool.and_eq_true] at hc
    exact ⟨d, e, hx.dp (shaped_lay hc.1), hy.dp (shaped_lay hc.2), hc.1, hc.2, k _ H (Same.refl _) (.of (.bl _))⟩
  · exact k.elim
def ltD : PyData → PyData → Rs PyData := intD0 fun i j => .bool (decide (i < j))
def gtD : PyData → PyData → Rs PyData := intD0 fun i j => .bool (decide (j < i))
def leD : PyData → PyData → Rs PyData := intD0 fun i j => .bool (decide (i ≤ j))
def geD : PyData → PyData → Rs PyData := intD0 fun i j => .bool (decide (j ≤ i))
def isNoneD : PyData → Bool
  | .none => true
  | _ => false
def isD (d e : PyData) : Rs PyData := match e with
  | .none => .ok (.bool (isNoneD d))
  | _ => .bad
def isNotD (d e : PyData) : Rs PyData := match e with
  | .none => .ok (.bool (!isNoneD d))
  | _ => .bad
theorem isNone_iff {N : Addr → Prop} {H : Hp} {x : V} {d : PyData} (h : Dw S.K N H x d) : decide (x = .non) = isNoneD d := by
  cases h with
  | dd h => cases h <;> rfl
  | own _ _ => rfl
  | dct _ _ => rfl
  | pen _ _ => rfl
  | src _ _ _ _ => rfl
  | desk _ _ _ => rfl
theorem opD_is : OpD S w (fun x y H Q => y = .non ∧ Q (.bl (decide (x = .non))) H) isD := by
  intro N H x y d e Q E t hx hy k
  unfold isD at k
  split at k
  · cases hy.non
    exact ⟨rfl, k _ H (Same.refl _) (.of (by rw [isNone_iff hx]; exact .bl _))⟩
  · exact k.elim
/-- x in a list of anything, or in a tuple of flat things -/
def flatDt : PyData → Bool
  | .none => true
  | .bool _ => true
  | .int _ => true
  | .str _ => true
  | _ => false
end
section
variable {S : Sx} {w : Bool}
/-! ### comparisons as values and as tests -/
def bD : PyData → Rs Bool
  | .bool b => .ok b
  | _ => .bad
def tB' (f : Ev → Rs PyData) : Ev → Rs Bool := fun ρ => (f ρ).bind bD
/-- a comparison by its operator -/
structure CmpD (S : Sx) (op : CmpOp) (g : PyData → PyData → Rs PyData) : Prop where
  h : ∃ r : R2, (∀ X E, Cs S X E → OpR X (compareOp op) r) ∧ ∀ w, OpD S w r g
theorem cmp_eq : CmpD S .Eq eqD := ⟨_, fun X E c => by rw [← c.K]; exact op_eqD (by have := c.room.un; omega), fun w => opD_eq⟩
theorem cmp_ne : CmpD S .NotEq neD := ⟨_, fun X E c => by rw [← c.K]; exact op_neD (by have := c.room.un; omega), fun w => opD_ne⟩
theorem cmp_lt : CmpD S .Lt ltD := ⟨_, fun X E c => op_lt, fun w => opD_int0 fun i j N H => .bl _⟩
theorem cmp_gt : CmpD S .Gt gtD := ⟨_, fun X E c => op_gt, fun w => opD_int0 fun i j N H => .bl _⟩
theorem cmp_le : CmpD S .LtE leD := ⟨_, fun X E c => op_le, fun w => opD_int0 fun i j N H => .bl _⟩
theorem cmp_is : CmpD S .Is isD := ⟨_, fun X E c => op_isN, fun w => opD_is⟩
theorem flat_V {N : Addr → Prop} {H : Hp} {x : V} {d : PyData} (h : Dd S.K N H x d) (f : flatDt d = true) : flatV x = true := by
  cases h <;> first | rfl | cases f
theorem eqV_eqv {N N' : Addr → Prop} {H : Hp} {x y : V} {d e : PyData} (h : Dd S.K N H x d) (h' : Dd S.K N' H y e) (f : flatDt d = true) (f' : flatDt e = true) : eqV x y = PyData.eqv d e := by
  cases h <;> cases h' <;> first | rfl | (simp only [eqV, PyData.eqv]; done) | (simp [flatDt] at f; done) | (simp [flatDt] at f'; done)
theorem flats_V {N : Addr → Prop} {H : Hp} : ∀ {xs : List V} {ds : List PyData}, DdAll S.K N H xs ds → ds.all flatDt = true → xs.all flatV = true
  | _, _, .nil, _ => rfl
  | _, _, .cons a b, h => by
    rw [List.all_cons, Bool.and_eq_true] at h
    rw [List.all_cons, flat_V a h.1, flats_V b h.2]
    rfl
theorem in_V {N N' : Addr → Prop} {H : Hp} {x : V} {d : PyData} (hx : Dd S.K N' H x d) (fx : flatDt d = true) : ∀ {xs : List V} {ds : List PyData}, DdAll S.K N H xs ds → ds.all flatDt = true → inV x xs = ds.any fun z => PyData.eqv z d
  | _, _, .nil, _ => rfl
  | _, _, .cons a b, h => by
    rw [List.all_cons, Bool.and_eq_true] at h
    have ih := in_V hx fx b h.2
    unfold inV at ih ⊢
    rw [List.any_cons, List.any_cons, ih, eqV_eqv a hx h.1 fx]
theorem flat_dd {N : Addr → Prop} {H : Hp} {x : V} {d : PyData} (h : Dw S.K N H x d) (f : flatDt d = true) : Dd S.K N H x d := by
  cases h with
  | dd h => exact h
  | own _ _ => cases f
  | dct _ _ => cases f
  | pen _ _ => cases f
  | src _ _ _ _ => cases f
  | desk _ _ _ => cases f
noncomputable def inB (neg : Bool) (d e : PyData) : Rs PyData := match e with
  | .list ds => @ite _ ((SeqAt.shaped d && SeqAt.shaped (.list ds)) = true) (Classical.propDecidable _) (.ok (.bool (neg ^^ ds.any fun z => PyData.eqv z d))) (.bad)
  | .tuple ds => @ite _ ((flatDt d && ds.all flatDt) = true) (Classical.propDecidable _) (.ok (.bool (neg ^^ ds.any fun z => PyData.eqv z d))) (.bad)
  | _ => .bad
noncomputable def inD : PyData → PyData → Rs PyData := inB false
noncomputable def notInD : PyData → PyData → Rs PyData := inB true
theorem opD_in (neg : Bool) : OpD S w (fun x y H Q => (∃ d ds, Dp S.K H x d ∧ Dp S.K H y (.list ds) ∧ SeqAt.shaped d = true ∧ SeqAt.shaped (.list ds) = true ∧ Q (.bl (neg ^^ ds.any fun z => PyData.eqv z d)) H) ∨ rIn S.K neg x y H Q) (inB neg) := by
  intro N H x y d e Q E t hx hy k
  unfold inB at k
  split at k
  · split at k
    · rename_i ds hc
      rw [Bool.and_eq_true] at hc
      exact .inl ⟨d, ds, hx.dp (shaped_lay hc.1), hy.dp (shaped_lay hc.2), hc.1, hc.2, k _ H (Same.refl _) (.of (.bl _))⟩
    · exact k.elim
  · split at k
    · rename_i ds hc
      rw [Bool.and_eq_true] at hc
      obtain ⟨p, xs, rfl, e1, k1⟩ := hy.tup
      have hx' := flat_dd hx hc.1
      refine .inr ⟨p, xs, rfl, .inr e1, flat_V hx' hc.1, flats_V k1 hc.2, ?_⟩
      rw [in_V hx' hc.1 k1 hc.2]
      cases neg with
      | false =>
        have := k _ H (Same.refl _) (.of (.bl _))
        rw [Bool.false_xor] at this
        exact this
      | true =>
        have := k _ H (Same.refl _) (.of (.bl _))
        rw [Bool.true_xor] at this
        exact this
    · exact k.elim
  · exact k.elim
theorem cmp_in : CmpD S .In inD := ⟨_, fun X E c => by
  rw [← c.K]
  refine op_or (fun pins s σ H x y v u Q I rx ry q => ?_) op_in_seq
  obtain ⟨d, ds, h1, h2, h3, h4, h5⟩ := q
  rw [Bool.false_xor] at h5
  exact op_inD (by have := c.room.un; omega) pins s σ H x y v u Q I rx ry ⟨d, ds, h1, h2, h3, h4, h5⟩, fun w => opD_in false⟩
theorem cmp_notIn : CmpD S .NotIn notInD := ⟨_, fun X E c => by
  rw [← c.K]
  refine op_or (fun pins s σ H x y v u Q I rx ry q => ?_) op_notIn_seq
  obtain ⟨d, ds, h1, h2, h3, h4, h5⟩ := q
  rw [Bool.true_xor] at h5
  exact op_notInD (by have := c.room.un; omega) pins s σ H x y v u Q I rx ry ⟨d, ds, h1, h2, h3, h4, h5⟩, fun w => opD_in true⟩
theorem de_cmp {a b : Expr} {op : CmpOp} {pos : Pos} {g : PyData → PyData → Rs PyData} {fa fb : Ev → Rs PyData} (hc : CmpD S op g) (ha : De true S a fa) (hb : De true S b fb) (hm : behindInMarks op b = false := by first | exact nomark _ | rfl) : De w S (.Compare a [op] [b] pos) (e2 g fa fb) := by
  obtain ⟨r, h1, h2⟩ := hc.h
  exact de_two (fun X E c ta tb k1 k2 => pe_cmpR (h1 X E c) k1 k2 hm) (h2 w) ha hb
theorem dt_of {e : Expr} {f : Ev → Rs PyData} {mk : TE → TT} (hmk : ∀ t σ H Q, t σ H (fun x H' => ∃ k, x = .bl k ∧ Q k H') → mk t σ H Q) (h : ∃ t : XK → TE, (∀ X E, Cs S X E → PT X e (mk (t E))) ∧ ∀ B H0 N σ H ρ Q E, Rep S.K B H0 N σ H ρ → EE true S N H Q E (f ρ) → t E σ H Q) : Dt S e (tB' f) := by
  obtain ⟨t, h1, h2⟩ := h
  refine ⟨fun E => mk (t E), h1, fun B H0 N σ H ρ Q E r k => hmk _ _ _ _ (h2 B H0 N σ H ρ _ E r ?_)⟩
  unfold tB' at k
  cases e1 : f ρ with
  | bad => rw [e1] at k; exact k
  | err c => rw [e1] at k; exact k
  | ok d =>
    rw [e1, Rs.bind_ok] at k
    intro v H' s' k'
    cases d with
    | bool b => exact ⟨b, (DW.w k').bl, k H' s'⟩
    | _ => exact k.elim
/-- an expression that gives a truth, as a test -/
theorem dt_val {e : Expr} {f : Ev → Rs PyData} (h : De true S e f) (he : ∀ env whole, isTrue e env whole = (do let v ← whole; standAt e.pos; holding [v] (truthy v)) := by intro _ _; rfl) : Dt S e (tB' f) := by
  obtain ⟨t, h1, h2⟩ := h
  exact dt_of (mk := L2.tB) (fun t σ H Q q => q) ⟨t, fun X E c => pt_val (h1 X E c) (he _), h2⟩
theorem dt_cmp {a b : Expr} {op : CmpOp} {pos : Pos} {g : PyData → PyData → Rs PyData} {fa fb : Ev → Rs PyData} (hc : CmpD S op g) (ha : De true S a fa) (hb : De true S b fb) (hm : behindInMarks op b = false := by first | exact nomark _ | rfl) : Dt S (.Compare a [op] [b] pos) (tB' (e2 g fa fb)) := by
  obtain ⟨r, h1, h2⟩ := hc.h
  obtain ⟨t, h3, h4⟩ := ha
  obtain ⟨u, h5, h6⟩ := hb
  refine dt_of (mk := tTest) (fun t σ H Q q => q) ⟨fun E => tOp r (t E) (u E), fun X E c => pt_cmpR (h1 X E c) (h3 X E c) (h5 X E c) hm, fun B H0 N σ H ρ Q E rp k => ?_⟩
  refine h4 B H0 N σ H ρ _ E rp ?_
  unfold e2 at k
  cases e1 : fa ρ with
  | bad => rw [e1] at k; exact k
  | err c => rw [e1] at k; exact k
  | ok d =>
    intro v H1 s1 k1
    rw [e1, Rs.bind_ok] at k
    refine h6 B H0 N σ H1 ρ _ E (rp.same s1) ?_
    cases e2 : fb ρ with
    | bad => rw [e2] at k; exact k
    | err c => rw [e2] at k; exact fun H' s' => k H' (s1.trans s')
    | ok e =>
      rw [e2, Rs.bind_ok] at k
      exact fun y H2 s2 k2 => h2 true N H2 v y d e Q E ((rp.same s1).same s2).told (DW.w (k1.same s2)) (DW.w k2) (k.from (s1.trans s2))
/-- a < b < c -/
def eChain (g g' : PyData → PyData → Rs PyData) (fa fb fc : Ev → Rs PyData) : Ev → Rs PyData := fun ρ => (fa ρ).bind fun a => (fb ρ).bind fun b => (g a b).bind fun z => (bD z).bind fun k => if k = true then (fc ρ).bind fun c => g' b c else .ok (.bool false)
theorem chain_run {a b c : Expr} {op op' : CmpOp} {g g' : PyData → PyData → Rs PyData} {fa fb fc : Ev → Rs PyData} (h : CmpD S op g) (h' : CmpD S op' g') (ha : De true S a fa) (hb : De true S b fb) (hc : De true S c fc) :
    ∃ (r r' : R2) (t u z : XK → TE), (∀ X E, Cs S X E → OpR X (compareOp op) r ∧ OpR X (compareOp op') r' ∧ PE X a (t E) ∧ PE X b (u E) ∧ PE X c (z E)) ∧ ∀ w B H0 N σ H ρ Q E, Rep S.K B H0 N σ H ρ → EE w S N H Q E (eChain g g' fa fb fc ρ) → tChain r r' (t E) (u E) (z E) σ H Q := by
  obtain ⟨r, h1, h2⟩ := h.h
  obtain ⟨r', h1', h2'⟩ := h'.h
  obtain ⟨t, h3, h4⟩ := ha
  obtain ⟨u, h5, h6⟩ := hb
  obtain ⟨z, h7, h8⟩ := hc
  refine ⟨r, r', t, u, z, fun X E c => ⟨h1 X E c, h1' X E c, h3 X E c, h5 X E c, h7 X E c⟩, fun w B H0 N σ H ρ Q E rp k => ?_⟩
  refine h4 B H0 N σ H ρ _ E rp ?_
  unfold eChain at k
  cases e1 : fa ρ with
  | bad => rw [e1] at k; exact k
  | err c => rw [e1] at k; exact k
  | ok d =>
    intro v H1 s1 k1
    rw [e1, Rs.bind_ok] at k
    refine h6 B H0 N σ H1 ρ _ E (rp.same s1) ?_
    cases e2 : fb ρ with
    | bad => rw [e2] at k; exact k
    | err c => rw [e2] at k; exact fun H' s' => k H' (s1.trans s')
    | ok e =>
      rw [e2, Rs.bind_ok] at k
      intro y H2 s2 k2
      refine h2 true N H2 v y d e _ E ((rp.same s1).same s2).told (DW.w (k1.same s2)) (DW.w k2) ?_
      cases e3 : g d e with
      | bad => rw [e3] at k; exact k
      | err c => rw [e3] at k; exact fun H' s' => k H' ((s1.trans s2).trans s')
      | ok q =>
        rw [e3, Rs.bind_ok] at k
        intro x3 H3 s3 k3
        cases q with
        | bool kk =>
          rw [bD, Rs.bind_ok] at k
          refine ⟨kk, (DW.w k3).bl, ?_⟩
          cases kk with
          | false =>
            rw [if_neg Bool.false_ne_true] at k ⊢
            exact k _ H3 ((s1.trans s2).trans s3) (.of (.bl _))
          | true =>
            rw [if_pos rfl] at k ⊢
            refine h8 B H0 N σ H3 ρ _ E (((rp.same s1).same s2).same s3) ?_
            cases e4 : fc ρ with
            | bad => rw [e4] at k; exact k
            | err c => rw [e4] at k; exact fun H' s' => k H' (((s1.trans s2).trans s3).trans s')
            | ok c =>
              rw [e4, Rs.bind_ok] at k
              exact fun y4 H4 s4 k4 => h2' w N H4 y y4 e c Q E ((((rp.same s1).same s2).same s3).same s4).told (DW.w (k2.same (s3.trans s4))) (DW.w k4) (k.from (((s1.trans s2).trans s3).trans s4))
        | _ => exact k.elim
theorem de_chain {a b c : Expr} {op op' : CmpOp} {pos : Pos} {g g' : PyData → PyData → Rs PyData} {fa fb fc : Ev → Rs PyData} (h : CmpD S op g) (h' : CmpD S op' g') (ha : De true S a fa) (hb : De true S b fb) (hc : De true S c fc) (hm : lastMarks [op, op'] [b, c] = false := by with_unfolding_all rfl) : De w S (.Compare a [op, op'] [b, c] pos) (eChain g g' fa fb fc) := by
  obtain ⟨r, r', t, u, z, h1, h2⟩ := chain_run h h' ha hb hc
  exact ⟨fun E => tChain r r' (t E) (u E) (z E), fun X E c => let ⟨q1, q2, q3, q4, q5⟩ := h1 X E c; pe_chain q1 q2 q3 q4 q5 hm, h2 w⟩
/-! ### not, and, or, if -/
theorem ET.from {H H1 : Hp} {Q : Bool → Hp → Prop} {E : XK} {r : Rs Bool} (s : Same H H1) (k : ET S H Q E r) : ET S H1 Q E r := by
  cases r with
  | bad => exact k
  | err c => exact fun H' s' => k H' (s.trans s')
  | ok d => exact fun H' s' => k H' (s.trans s')
def tNot' (f : Ev → Rs Bool) : Ev → Rs Bool := fun ρ => (f ρ).bind fun b => .ok (!b)
theorem dt_not {a : Expr} {pos : Pos} {f : Ev → Rs Bool} (h : Dt S a f) : Dt S (.UnaryOp .Not a pos) (tNot' f) := by
  obtain ⟨t, h1, h2⟩ := h
  refine ⟨fun E => tNot (t E), fun X E c => pt_not (h1 X E c), fun B H0 N σ H ρ Q E r k => h2 B H0 N σ H ρ _ E r ?_⟩
  unfold tNot' at k
  cases e1 : f ρ with
  | bad => rw [e1] at k; exact k
  | err c => rw [e1] at k; exact k
  | ok d => rw [e1] at k; exact k
def tOr' (f g : Ev → Rs Bool) : Ev → Rs Bool := fun ρ => (f ρ).bind fun b => if b = true then .ok true else g ρ
theorem dw_or1 {a : Expr} {pos : Pos} {f : Ev → Rs Bool} (h : Dt S a f) : Dwt S (.BoolOp .Or [a] pos) f := by
  obtain ⟨t, h1, h2⟩ := h
  exact ⟨t, fun X E c => pw_or1 (h1 X E c), h2⟩
theorem dw_or {a b : Expr} {rest : List Expr} {pos : Pos} {f g : Ev → Rs Bool} (h : Dt S a f) (h' : Dwt S (.BoolOp .Or (b :: rest) pos) g) : Dwt S (.BoolOp .Or (a :: b :: rest) pos) (tOr' f g) := by
  obtain ⟨t, h1, h2⟩ := h
  obtain ⟨u, h3, h4⟩ := h'
  refine ⟨fun E => tOr (t E) (u E), fun X E c => pw_or (h1 X E c) (h3 X E c), fun B H0 N σ H ρ Q E r k => h2 B H0 N σ H ρ _ E r ?_⟩
  unfold tOr' at k
  cases e1 : f ρ with
  | bad => rw [e1] at k; exact k
  | err c => rw [e1] at k; exact k
  | ok d =>
    rw [e1, Rs.bind_ok] at k
    intro H1 s1
    cases d with
    | true =>
      rw [if_pos rfl] at k ⊢
      exact k H1 s1
    | false =>
      rw [if_neg Bool.false_ne_true] at k ⊢
      exact h4 B H0 N σ H1 ρ _ E (r.same s1) (k.from s1)
theorem dt_w {e : Expr} {f : Ev → Rs Bool} (h : Dwt S e f) : Dt S e f := by
  obtain ⟨t, h1, h2⟩ := h
  exact ⟨t, fun X E c => (h1 X E c).pt, h2⟩
def eNot (f : Ev → Rs PyData) : Ev → Rs PyData := fun ρ => (f ρ).bind fun d => (bD d).bind fun b => .ok (.bool (!b))
def eAnd (f g : Ev → Rs PyData) : Ev → Rs PyData := fun ρ => (f ρ).bind fun d => (bD d).bind fun b => if b = true then g ρ else .ok (.bool false)
theorem de_not {a : Expr} {pos : Pos} {f : Ev → Rs PyData} (h : De true S a f) : De w S (.UnaryOp .Not a pos) (eNot f) := by
  obtain ⟨t, h1, h2⟩ := h
  refine ⟨fun E => tNotV (t E), fun X E c => pe_not (h1 X E c), fun B H0 N σ H ρ Q E r k => h2 B H0 N σ H ρ _ E r ?_⟩
  unfold eNot at k
  cases e1 : f ρ with
  | bad => rw [e1] at k; exact k
  | err c => rw [e1] at k; exact k
  | ok d =>
    rw [e1, Rs.bind_ok] at k
    intro v H1 s1 k1
    cases d with
    | bool b => exact ⟨b, (DW.w k1).bl, k _ H1 s1 (.of (.bl _))⟩
    | _ => exact k.elim
theorem de_one {op : BoolOp} {a : Expr} {pos : Pos} {f : Ev → Rs PyData} (h : De w S a f) : De w S (.BoolOp op [a] pos) f := by
  obtain ⟨t, h1, h2⟩ := h
  exact ⟨t, fun X E c => pe_one (h1 X E c), h2⟩
theorem de_and {a b : Expr} {rest : List Expr} {pos : Pos} {f g : Ev → Rs PyData} (h : De true S a f) (h' : De w S (.BoolOp .And (b :: rest) pos) g) : De w S (.BoolOp .And (a :: b :: rest) pos) (eAnd f g) := by
  obtain ⟨t, h1, h2⟩ := h
  obtain ⟨u, h3, h4⟩ := h'
  refine ⟨fun E => tAndV (t E) (u E), fun X E c => pe_and (h1 X E c) (h3 X E c), fun B H0 N σ H ρ Q E r k => h2 B H0 N σ H ρ _ E r ?_⟩
  unfold eAnd at k
  cases e1 : f ρ with
  | bad => rw [e1] at k; exact k
  | err c => rw [e1] at k; exact k
  | ok d =>
    rw [e1, Rs.bind_ok] at k
    intro v H1 s1 k1
    cases d with
    | bool b =>
      rw [bD, Rs.bind_ok] at k
      refine ⟨b, (DW.w k1).bl, ?_⟩
      cases b with
      | false =>
        rw [if_neg Bool.false_ne_true] at k ⊢
        exact k _ H1 s1 (.of (.bl _))
      | true =>
        rw [if_pos rfl] at k ⊢
        exact h4 B H0 N σ H1 ρ _ E (r.same s1) (k.from s1)
    | _ => exact k.elim
def eIf (c : Ev → Rs Bool) (f g : Ev → Rs PyData) : Ev → Rs PyData := fun ρ => (c ρ).bind fun b => if b = true then f ρ else g ρ
theorem de_if {c a b : Expr} {pos : Pos} {fc : Ev → Rs Bool} {f g : Ev → Rs PyData} (hc : Dt S c fc) (h : De w S a f) (h' : De w S b g) : De w S (.IfExp c a b pos) (eIf fc f g) := by
  obtain ⟨t, h1, h2⟩ := hc
  obtain ⟨u, h3, h4⟩ := h
  obtain ⟨z, h5, h6⟩ := h'
  refine ⟨fun E => tIf (t E) (u E) (z E), fun X E c => pe_ifExp (h1 X E c) (h3 X E c) (h5 X E c), fun B H0 N σ H ρ Q E r k => h2 B H0 N σ H ρ _ E r ?_⟩
  unfold eIf at k
  cases e1 : fc ρ with
  | bad => rw [e1] at k; exact k
  | err c => rw [e1] at k; exact k
  | ok d =>
    rw [e1, Rs.bind_ok] at k
    intro H1 s1
    cases d with
    | true =>
      rw [if_pos rfl] at k ⊢
      exact h4 B H0 N σ H1 ρ _ E (r.same s1) (k.from s1)
    | false =>
      rw [if_neg Bool.false_ne_true] at k ⊢
      exact h6 B H0 N σ H1 ρ _ E (r.same s1) (k.from s1)
/-- a name as a test, by its truth -/
noncomputable def truD : PyData → Rs Bool
  | .none => .ok false
  | .bool b => .ok b
  | .int i => .ok (i != 0)
  | .str x => @ite _ (x.length ≤ lim) (Classical.propDecidable _) (.ok ((x.length : Int) != 0)) (.bad)
  | .list ds => .ok (!ds.isEmpty)
  | .tuple ds => .ok (!ds.isEmpty)
  | .dict _ => .bad
noncomputable def tTr (f : Ev → Rs PyData) : Ev → Rs Bool := fun ρ => (f ρ).bind truD
theorem dd_empty {N : Addr → Prop} {H : Hp} {xs : List V} {ds : List PyData} (h : DdAll S.K N H xs ds) : xs.isEmpty = ds.isEmpty := by
  cases h <;> rfl
theorem dt_truth {e : Expr} {f : Ev → Rs PyData} (h : De true S e f) (he : ∀ env whole, isTrue e env whole = (do let v ← whole; standAt e.pos; holding [v] (truthy v)) := by intro _ _; rfl) : Dt S e (tTr f) := by
  obtain ⟨t, h1, h2⟩ := h
  refine ⟨fun E σ H Q => t E σ H fun x H' => ∃ k, TruV S.K x H' k ∧ Q k H', fun X E c => by rw [← c.K]; exact pt_truth (h1 X E c) (he _), fun B H0 N σ H ρ Q E r k => h2 B H0 N σ H ρ _ E r ?_⟩
  unfold tTr at k
  cases e1 : f ρ with
  | bad => rw [e1] at k; exact k
  | err c => rw [e1] at k; exact k
  | ok d =>
    rw [e1, Rs.bind_ok] at k
    intro v H1 s1 k1
    have k1 := DW.w k1
    cases d with
    | none => exact ⟨_, by cases k1.non; exact rfl, k H1 s1⟩
    | bool b => exact ⟨_, by cases k1.bl; exact rfl, k H1 s1⟩
    | int i => exact ⟨_, by cases k1.int; exact rfl, k H1 s1⟩
    | str x =>
      have k : ET S H Q E (@ite _ (x.length ≤ lim) (Classical.propDecidable _) (.ok ((x.length : Int) != 0)) .bad) := k
      by_cases hl : x.length ≤ lim
      · rw [if_pos hl] at k
        exact ⟨_, by cases k1.str; exact ⟨Nat.le_trans hl lim_line, rfl⟩, k H1 s1⟩
      · rw [if_neg hl] at k
        exact k.elim
    | list ds =>
      obtain ⟨a, xs, rfl, e2, k2⟩ := k1.lst
      exact ⟨_, .inl ⟨xs, SqL.of e2, by rw [dd_empty k2]⟩, k H1 s1⟩
    | tuple ds =>
      obtain ⟨a, xs, rfl, e2, k2⟩ := k1.tup
      exact ⟨_, .inr (.inl ⟨xs, e2, by rw [dd_empty k2]⟩), k H1 s1⟩
    | dict _ => exact k.elim
end
section
variable {S : Sx} {w : Bool}
theorem pd_all {N : Addr → Prop} {H : Hp} : ∀ {vs : List V} {ds : List PyData}, Paired (DW false S.K N H) vs ds → DdAll S.K N H vs ds
  | _, _, .nil => .nil
  | _, _, .cons a b => .cons a (pd_all b)
/-! ### new lists -/
theorem keep_new {N : Addr → Prop} {H : Hp} {p : Addr} {o : HO} (h : H p = none) : KeepF N H (fun a => N a ∨ a = p) (upd H p o) := ⟨fun a u e n => ⟨same_upd h a u e, fun z => z.elim n (ne_of_none e h)⟩, fun a xs e => same_rd (same_upd h) e⟩
def EF (S : Sx) (N : Addr → Prop) (H : Hp) (Q : VK) (E : XK) : Rs (List PyData) → Prop
  | .bad => False
  | .err c => ∀ H', Same H H' → E (.ref (S.cls c)) none H'
  | .ok ds => ∀ p xs H', Same H H' → H p = none → H' p = some (.lst xs) → DdAll S.K (fun a => N a ∨ a = p) H' xs ds → Q (.ref p) H'
def Df (S : Sx) (e : Expr) (f : Ev → Rs (List PyData)) : Prop :=
  ∃ t : XK → TE, (∀ X E, Cs S X E → PE X e (t E)) ∧ ∀ B H0 N σ H ρ Q E, Rep S.K B H0 N σ H ρ → EF S N H Q E (f ρ) → t E σ H Q
def eL (f : Ev → Rs (List PyData)) : Ev → Rs PyData := fun ρ => (f ρ).bind fun ds => .ok (.list ds)
theorem de_l {e : Expr} {f : Ev → Rs (List PyData)} (h : Df S e f) : De w S e (eL f) := by
  obtain ⟨t, h1, h2⟩ := h
  refine De.any ⟨t, h1, fun B H0 N σ H ρ Q E r k => h2 B H0 N σ H ρ Q E r ?_⟩
  unfold eL at k
  cases e1 : f ρ with
  | bad => rw [e1] at k; exact k
  | err c => rw [e1] at k; exact k
  | ok ds =>
    rw [e1] at k
    exact fun p xs H' s hp hl hd => k _ H' s (.lst hl (new_of r.told hp) (hd.keep (.weak fun _ z => .inl z)))
theorem EF.from {N : Addr → Prop} {H H1 : Hp} {Q : VK} {E : XK} {r : Rs (List PyData)} (s : Same H H1) (k : EF S N H Q E r) : EF S N H1 Q E r := by
  cases r with
  | bad => exact k
  | err c => exact fun H' s' => k H' (s.trans s')
  | ok d => exact fun p xs H' s' hp => k p xs H' (s.trans s') (s.free hp)
theorem EF.new {N : Addr → Prop} {H : Hp} {Q : VK} {E : XK} {xs : List V} {ds : List PyData} (k : EF S N H Q E (.ok ds)) (h : DdAll S.K N H xs ds) : ∀ p, H p = none → Q (.ref p) (upd H p (.lst xs)) := fun p hp => k p xs _ (same_upd hp) hp upd_same (h.keep (keep_new hp))
theorem df_lst {es : List Expr} {pos : Pos} {f : Ev → Rs (List PyData)} (h : Da false S es f) (hl : es.length ≤ 1000 := by decide) : Df S (.List es pos) f := by
  obtain ⟨t, h1, h2, h3⟩ := h
  refine ⟨fun E => tLst (t E), fun X E c => pe_lst (h1 X E c), fun B H0 N σ H ρ Q E r k => h2 B H0 N σ H ρ _ E r ?_⟩
  cases e1 : f ρ with
  | bad => rw [e1] at k; exact k
  | err c => rw [e1] at k; exact k
  | ok ds =>
    rw [e1] at k
    intro vs H1 s1 k1
    have hd := pd_all k1
    exact ⟨by rw [hd.len, h3 ρ ds e1]; exact Nat.le_of_lt (small1000 hl), (k.from s1).new hd⟩
def eTup (f : Ev → Rs (List PyData)) : Ev → Rs PyData := fun ρ => (f ρ).bind fun ds => .ok (.tuple ds)
theorem de_tup {es : List Expr} {k : Nat} {pos : Pos} {f : Ev → Rs (List PyData)} (h : Da false S es f) (hl : es.length ≤ 1000 := by decide) : De w S (.Tuple es k pos) (eTup f) := by
  obtain ⟨t, h1, h2, h3⟩ := h
  refine De.any ⟨fun E => tTup (t E), fun X E c => pe_tup (h1 X E c), fun B H0 N σ H ρ Q E r k => h2 B H0 N σ H ρ _ E r ?_⟩
  unfold eTup at k
  cases e1 : f ρ with
  | bad => rw [e1] at k; exact k
  | err c => rw [e1] at k; exact k
  | ok ds =>
    rw [e1] at k
    intro vs H1 s1 k1
    have hd := pd_all k1
    exact ⟨by rw [hd.len, h3 ρ ds e1]; exact Nat.le_of_lt (small1000 hl), fun p hp => k _ _ (s1.trans (same_upd hp)) (dd_tup hp hd)⟩
/-! ### a[i] -/
/-- a sign of a text -/
noncomputable def ixS (z : Str) (i : Int) : Rs PyData := @ite _ (z.length ≤ lim) (Classical.propDecidable _) (match atI z.cps.toList i with
  | some c => .ok (.str ⟨#[c]⟩)
  | none => .bad) .bad
noncomputable def ixD (d e : PyData) : Rs PyData := match d, e with
  | .str z, .int i => ixS z i
  | .list ds, .int i => match atI ds i with
    | some z => .ok z
    | none => .bad
  | .tuple ds, .int i => match atI ds i with
    | some z => .ok z
    | none => .bad
  | .dict [(.none, .list ds)], .int i => match atI ds i with
    | some z => .ok z
    | none => .bad
  | _, _ => .bad
theorem dd_at {N : Addr → Prop} {H : Hp} {xs : List V} {ds : List PyData} {i : Int} {z : PyData} (h : DdAll S.K N H xs ds) (e : atI ds i = some z) : ∃ v, atI xs i = some v ∧ Dd S.K N H v z := by
  unfold atI at e ⊢
  rw [h.len]
  cases q : ixN ds.length i with
  | none => rw [q] at e; cases e
  | some j =>
    rw [q] at e
    exact h.get e
theorem opD_ix : OpD S w (rIx S.K) ixD := by
  intro N H x y d e Q E t hx hy k
  unfold ixD at k
  split at k
  · rename_i z i
    cases hx.str
    cases hy.int
    unfold ixS at k
    split at k
    · rename_i hz
      split at k
      · rename_i c hc
        exact .inr (.inr ⟨z, i, c, rfl, rfl, Nat.le_trans hz lim_line, hc, k _ H (Same.refl _) (.of (.str _))⟩)
      · exact k.elim
    · exact k.elim
  · rename_i ds i
    split at k
    · rename_i z hz
      obtain ⟨p, xs, rfl, e1, k1⟩ := hx.lst
      cases hy.int
      obtain ⟨v, hv, kv⟩ := dd_at k1 hz
      exact .inl ⟨p, xs, i, v, rfl, rfl, SqL.of e1, hv, k v H (Same.refl _) (.of kv)⟩
    · exact k.elim
  · rename_i ds i
    split at k
    · rename_i z hz
      obtain ⟨p, xs, rfl, e1, k1⟩ := hx.tup
      cases hy.int
      obtain ⟨v, hv, kv⟩ := dd_at k1 hz
      exact .inr (.inl ⟨p, xs, i, v, rfl, rfl, e1, hv, k v H (Same.refl _) (.of kv)⟩)
    · exact k.elim
  · rename_i ds i
    split at k
    · rename_i z hz
      obtain ⟨p, xs, rfl, e1, k1⟩ := Dw.scr hx
      cases hy.int
      obtain ⟨v, hv, kv⟩ := dd_at k1 hz
      exact .inl ⟨p, xs, i, v, rfl, rfl, e1, hv, k v H (Same.refl _) (.of kv)⟩
    · exact k.elim
  · exact k.elim
theorem de_ix {a b : Expr} {pos : Pos} {fa fb : Ev → Rs PyData} (ha : De true S a fa) (hb : De true S b fb) (hs : PlainIx b := by exact fun _ _ => rfl) : De w S (.Subscript a b pos) (e2 ixD fa fb) :=
  de_two (fun X E c ta tb h1 h2 => pe_ix (by rw [← c.K]; exact ix_seq) h1 h2 hs) opD_ix ha hb
/-! ### a[i:j] -/
def ePart (f : Ev → Rs PyData) : Ev → Rs (Option Int) := fun ρ => (f ρ).bind fun
  | .int i => .ok (some i)
  | _ => .bad
def eNoPart : Ev → Rs (Option Int) := fun _ => .ok none
def EO (S : Sx) (H : Hp) (Q : Option Int → Hp → Prop) (E : XK) : Rs (Option Int) → Prop
  | .bad => False
  | .err c => ∀ H', Same H H' → E (.ref (S.cls c)) none H'
  | .ok o => ∀ H', Same H H' → Q o H'
def Do (S : Sx) (e : Option Expr) (f : Ev → Rs (Option Int)) : Prop :=
  ∃ t : XK → TO, (∀ X E, Cs S X E → PO X e (t E)) ∧ ∀ B H0 N σ H ρ Q E, Rep S.K B H0 N σ H ρ → EO S H Q E (f ρ) → t E σ H Q
theorem do_none : Do S none eNoPart := ⟨fun _ => tNoPart, fun X E c => po_none, fun B H0 N σ H ρ Q E r k => k H (Same.refl _)⟩
theorem do_some {e : Expr} {f : Ev → Rs PyData} (h : De true S e f) : Do S (some e) (ePart f) := by
  obtain ⟨t, h1, h2⟩ := h
  refine ⟨fun E => tPart (t E), fun X E c => po_some (h1 X E c), fun B H0 N σ H ρ Q E r k => h2 B H0 N σ H ρ _ E r ?_⟩
  unfold ePart at k
  cases e1 : f ρ with
  | bad => rw [e1] at k; exact k
  | err c => rw [e1] at k; exact k
  | ok d =>
    rw [e1, Rs.bind_ok] at k
    intro v H1 s1 k1
    cases d with
    | int i => exact ⟨i, (DW.w k1).int, k H1 s1⟩
    | _ => exact k.elim
def cutD (xs : List PyData) (lo hi : Option Int) : List PyData := (xs.drop (HT.sIx xs.length 0 lo)).take (HT.sIx xs.length xs.length hi - HT.sIx xs.length 0 lo)
theorem dd_cut {N : Addr → Prop} {H : Hp} {xs : List V} {ds : List PyData} (h : DdAll S.K N H xs ds) (lo hi : Option Int) : DdAll S.K N H (cutV xs lo hi) (cutD ds lo hi) := by
  unfold cutV cutD
  rw [h.len]
  exact (h.drop _).take _
theorem slice_run {e : Expr} {lo hi : Option Expr} {f : Ev → Rs PyData} {fl fh : Ev → Rs (Option Int)} {r : V → Option Int → Option Int → Hp → VK → Prop} (he : De true S e f) (hl : Do S lo fl) (hh : Do S hi fh) :
    ∃ (t : XK → TE) (tl th : XK → TO), (∀ X E, Cs S X E → PE X e (t E) ∧ PO X lo (tl E) ∧ PO X hi (th E)) ∧ ∀ B H0 N σ H ρ Q E, Rep S.K B H0 N σ H ρ →
      (match (f ρ).bind fun d => (fl ρ).bind fun l => (fh ρ).bind fun h => Rs.ok (d, l, h) with
        | .bad => False
        | .err c => ∀ H', Same H H' → E (.ref (S.cls c)) none H'
        | .ok z => ∀ v H', Same H H' → Dw S.K N H' v z.1 → r v z.2.1 z.2.2 H' Q) → tSl r (t E) (tl E) (th E) σ H Q := by
  obtain ⟨t, h1, h2⟩ := he
  obtain ⟨tl, h3, h4⟩ := hl
  obtain ⟨th, h5, h6⟩ := hh
  refine ⟨t, tl, th, fun X E c => ⟨h1 X E c, h3 X E c, h5 X E c⟩, fun B H0 N σ H ρ Q E rp k => h2 B H0 N σ H ρ _ E rp ?_⟩
  cases e1 : f ρ with
  | bad => rw [e1] at k; exact k
  | err c => rw [e1] at k; exact k
  | ok d =>
    rw [e1, Rs.bind_ok] at k
    intro v H1 s1 k1
    refine h4 B H0 N σ H1 ρ _ E (rp.same s1) ?_
    cases e2 : fl ρ with
    | bad => rw [e2] at k; exact k
    | err c => rw [e2] at k; exact fun H' s' => k H' (s1.trans s')
    | ok l =>
      rw [e2, Rs.bind_ok] at k
      intro H2 s2
      refine h6 B H0 N σ H2 ρ _ E ((rp.same s1).same s2) ?_
      cases e3 : fh ρ with
      | bad => rw [e3] at k; exact k
      | err c => rw [e3] at k; exact fun H' s' => k H' ((s1.trans s2).trans s')
      | ok h =>
        rw [e3, Rs.bind_ok] at k
        exact fun H3 s3 => k v H3 ((s1.trans s2).trans s3) (Dw.same (DW.w k1) (s2.trans s3))
noncomputable def slS (z : Str) (lo hi : Option Int) : Rs PyData := @ite _ (z.length ≤ lim) (Classical.propDecidable _) (.ok (.str (cutS z lo hi))) .bad
noncomputable def slD (d : PyData) (lo hi : Option Int) : Rs PyData := match d with
  | .str z => slS z lo hi
  | .tuple ds => .ok (.tuple (cutD ds lo hi))
  | .list ds => .ok (.list (cutD ds lo hi))
  | _ => .bad
noncomputable def eSl (f : Ev → Rs PyData) (fl fh : Ev → Rs (Option Int)) : Ev → Rs PyData := fun ρ => ((f ρ).bind fun d => (fl ρ).bind fun l => (fh ρ).bind fun h => Rs.ok (d, l, h)).bind fun z => slD z.1 z.2.1 z.2.2
theorem cut_all {ds : List PyData} {lo hi : Option Int} (h : HT.sIx ds.length 0 lo = 0 ∧ HT.sIx ds.length ds.length hi = ds.length) : cutD ds lo hi = ds := by
  unfold cutD
  rw [h.1, h.2, List.drop_zero, Nat.sub_zero, List.take_length]
theorem de_slice {e : Expr} {lo hi : Option Expr} {p2 pos : Pos} {f : Ev → Rs PyData} {fl fh : Ev → Rs (Option Int)} (he : De true S e f) (hl : Do S lo fl) (hh : Do S hi fh) : De w S (.Subscript e (.Slice lo hi none p2) pos) (eSl f fl fh) := by
  obtain ⟨t, tl, th, h1, h2⟩ := slice_run (r := fun x l u H Q => (rSlA S.K x l u H Q ∨ rSlL S.K x l u H Q) ∨ rSlS x l u H Q) he hl hh
  refine De.any ⟨fun E => tSl _ (t E) (tl E) (th E), fun X E c => pe_slice (by rw [← c.K]; exact SlR.or (SlR.or sl_tupA sl_list) sl_str) (h1 X E c).1 (h1 X E c).2.1 (h1 X E c).2.2, fun B H0 N σ H ρ Q E r k => h2 B H0 N σ H ρ Q E r ?_⟩
  unfold eSl at k
  generalize ((f ρ).bind fun d => (fl ρ).bind fun l => (fh ρ).bind fun h => Rs.ok (d, l, h)) = z at k ⊢
  cases z with
  | bad => exact k
  | err c => exact k
  | ok z =>
    rw [Rs.bind_ok] at k
    obtain ⟨d, l, h⟩ := z
    intro v H1 s1 k1
    have k : EE false S N H Q E (slD d l h) := k
    have k1 : Dw S.K N H1 v d := k1
    cases d with
    | tuple ds =>
      obtain ⟨a, xs, rfl, e1, kk⟩ := k1.tup
      refine .inl (.inl ⟨a, xs, rfl, e1, fun q => ?_, fun _ p hp => k _ _ (s1.trans (same_upd hp)) (dd_tup hp (dd_cut kk l h))⟩)
      rw [kk.len] at q
      have := k (.ref a) H1 s1 (by rw [cut_all q]; exact .tup e1 kk)
      exact this
    | list ds =>
      obtain ⟨a, xs, rfl, e1, kk⟩ := k1.lst
      exact .inl (.inr ⟨a, xs, rfl, SqL.of e1, fun p hp => k _ _ (s1.trans (same_upd hp)) (.lst upd_same (new_of (r.told.same s1) hp) ((dd_cut kk l h).same (same_upd hp)))⟩)
    | str z =>
      cases k1.str
      have k : EE false S N H Q E (slS z l h) := k
      unfold slS at k
      split at k
      · rename_i hz
        exact .inr ⟨z, rfl, Nat.le_trans hz lim_line, k _ H1 s1 (.str _)⟩
      · exact k.elim
    | _ => exact k.elim
/-- a[::-1] -/
def e1 (g : PyData → Rs PyData) (f : Ev → Rs PyData) : Ev → Rs PyData := fun ρ => (f ρ).bind g
def revTD : PyData → Rs PyData
  | .tuple ds => .ok (.tuple ds.reverse)
  | _ => .bad
def revLD : PyData → Rs PyData
  | .list ds => .ok (.list ds.reverse)
  | _ => .bad
end
section
variable {S : Sx} {w : Bool}
/-! ### calls of built-ins -/
def eCB (g : List PyData → Rs PyData) (fs : Ev → Rs (List PyData)) : Ev → Rs PyData := fun ρ => (fs ρ).bind g
def CallD (S : Sx) (w : Bool) (r : List V → Hp → VK → Prop) (g : List PyData → Rs PyData) : Prop := ∀ N H vs ds Q E, Told N H → Paired (Dw S.K N H) vs ds → EE w S N H Q E (g ds) → r vs H Q
theorem pd_w {N : Addr → Prop} {H : Hp} : ∀ {vs : List V} {ds : List PyData}, Paired (DW true S.K N H) vs ds → Paired (Dw S.K N H) vs ds
  | _, _, .nil => .nil
  | _, _, .cons a b => .cons a (pd_w b)
theorem cb_run {es : List Expr} {g : List PyData → Rs PyData} {r : List V → Hp → VK → Prop} {fs : Ev → Rs (List PyData)} (hD : CallD S w r g) (ha : Da true S es fs) :
    ∃ t : XK → TA, (∀ X E, Cs S X E → PA X es (t E)) ∧ ∀ B H0 N σ H ρ Q E, Rep S.K B H0 N σ H ρ → EE w S N H Q E (eCB g fs ρ) → tCB r (t E) σ H Q := by
  obtain ⟨t, h1, h2, _⟩ := ha
  refine ⟨t, h1, fun B H0 N σ H ρ Q E rp k => h2 B H0 N σ H ρ _ E rp ?_⟩
  unfold eCB at k
  cases e1 : fs ρ with
  | bad => rw [e1] at k; exact k
  | err c => rw [e1] at k; exact k
  | ok d =>
    rw [e1, Rs.bind_ok] at k
    exact fun vs H1 s1 k1 => hD N H1 vs d Q E (rp.same s1).told (pd_w k1) (k.from s1)
theorem de_callB {id : String} {x : Str} {e : Expr} {es : List Expr} {p pos : Pos} {r : List V → Hp → VK → Prop} {g : List PyData → Rs PyData} {fs : Ev → Rs (List PyData)} (hc : ∀ X E, Cs S X E → CallR X (.builtin id) r) (hD : CallD S w r g) (hm : S.mg x = none) (hv : bootBuiltins x = some (.builtin id)) (ha : Da true S (e :: es) fs)
    (hg : Gn S x) (hn : x ≠ "__name__") (hdb : (x == ("__debug__" : Str)) = false)
    (he : ∀ env, starEach (e :: es) env = (false, eval e env) :: starEach es env) (hpl : ∀ env, (backTo pos (starEach es env)).any (·.1) = false) : De w S (.Call (.Name x p) (e :: es) [] pos) (eCB g fs) := by
  obtain ⟨t, h1, h2⟩ := cb_run hD ha
  exact ⟨fun E => tCB r (t E), fun X E c => pe_callB (hc X E c) (gl_of c hg) (by rw [c.mg]; exact hm) hv (h1 X E c) hn hdb (he _) (hpl _), h2⟩
theorem de_callTy {T : String} {x : Str} {e : Expr} {es : List Expr} {p pos : Pos} {r : List V → Hp → VK → Prop} {g : List PyData → Rs PyData} {fs : Ev → Rs (List PyData)} (hc : ∀ X E, Cs S X E → CallR X (.type T) r) (hD : CallD S w r g) (hm : S.mg x = none) (hv : bootBuiltins x = some (.type T)) (ha : Da true S (e :: es) fs)
    (hg : Gn S x) (hn : x ≠ "__name__") (hdb : (x == ("__debug__" : Str)) = false)
    (he : ∀ env, starEach (e :: es) env = (false, eval e env) :: starEach es env) (hpl : ∀ env, (backTo pos (starEach es env)).any (·.1) = false) : De w S (.Call (.Name x p) (e :: es) [] pos) (eCB g fs) := by
  obtain ⟨t, h1, h2⟩ := cb_run hD ha
  exact ⟨fun E => tCB r (t E), fun X E c => pe_callTy (hc X E c) (gl_of c hg) (by rw [c.mg]; exact hm) hv (h1 X E c) hn hdb (he _) (hpl _), h2⟩
theorem pd1 {R : V → PyData → Prop} {vs : List V} {d : PyData} (h : Paired R vs [d]) : ∃ v, vs = [v] ∧ R v d := by
  cases h with
  | cons a b => cases b; exact ⟨_, rfl, a⟩
theorem pd2 {R : V → PyData → Prop} {vs : List V} {d e : PyData} (h : Paired R vs [d, e]) : ∃ v u, vs = [v, u] ∧ R v d ∧ R u e := by
  cases h with
  | cons a b => cases b with | cons c b => cases b; exact ⟨_, _, rfl, a, c⟩
/-- len -/
noncomputable def lenD : List PyData → Rs PyData
  | [.list ds] => .ok (.int ds.length)
  | [.tuple ds] => .ok (.int ds.length)
  | [.dict [(.none, .list ds)]] => .ok (.int ds.length)
  | [.str x] => @ite _ (x.length ≤ lim) (Classical.propDecidable _) (.ok (.int x.length)) (.bad)
  | _ => .bad
theorem cr_or {X : Cx} {f : Value} {r r' : List V → Hp → VK → Prop} (h : CallR X f r) (h' : CallR X f r') : CallR X f (fun vs H Q => r vs H Q ∨ r' vs H Q) := by
  intro pins s σ H vs us Q I rv q
  rcases q with q | q
  · exact h pins s σ H vs us Q I rv q
  · exact h' pins s σ H vs us Q I rv q
theorem callD_len : CallD S w (fun vs H Q => (∃ p ys, vs = [.ref p] ∧ (SqL S.K H p ys ∨ SqT S.K H p ys) ∧ Q (.int ys.length) H) ∨ (∃ x : Str, vs = [.str x] ∧ x.length ≤ sizeLine ∧ Q (.int x.length) H)) lenD := by
  intro N H vs ds Q E t hv k
  unfold lenD at k
  split at k
  · obtain ⟨v, rfl, hx⟩ := pd1 hv
    obtain ⟨a, xs, rfl, e1, kk⟩ := hx.lst
    exact .inl ⟨a, xs, rfl, .inl (SqL.of e1), by rw [kk.len]; exact k _ H (Same.refl _) (.of (.int _))⟩
  · obtain ⟨v, rfl, hx⟩ := pd1 hv
    obtain ⟨a, xs, rfl, e1, kk⟩ := hx.tup
    exact .inl ⟨a, xs, rfl, .inr e1, by rw [kk.len]; exact k _ H (Same.refl _) (.of (.int _))⟩
  · obtain ⟨v, rfl, hx⟩ := pd1 hv
    obtain ⟨a, xs, rfl, e1, kk⟩ := Dw.scr hx
    exact .inl ⟨a, xs, rfl, .inl e1, by rw [kk.len]; exact k _ H (Same.refl _) (.of (.int _))⟩
  · split at k
    · rename_i x hl
      obtain ⟨v, rfl, hx⟩ := pd1 hv
      cases hx.str
      exact .inr ⟨x, rfl, Nat.le_trans hl lim_line, k _ H (Same.refl _) (.of (.int _))⟩
    · exact k.elim
  · exact k.elim
theorem de_len {e : Expr} {p pos : Pos} {fs : Ev → Rs (List PyData)} (hm : S.mg "len" = none) (ha : Da true S [e] fs) (hg : Gn S "len" := by rfl) (he : ∀ env, starEach [e] env = (false, eval e env) :: starEach [] env := by intro _; rfl) : De w S (.Call (.Name "len" p) [e] [] pos) (eCB lenD fs) :=
  de_callB (id := "len") (fun X E c => by rw [← c.K]; exact cr_or call_len_seq (fun pins s σ H vs us Q I rv q => by
    obtain ⟨x, rfl, h1, h2⟩ := q
    exact call_len_str pins s σ H [.str x] us Q I rv ⟨x, rfl, h1, h2⟩)) callD_len hm PySem.boot_len ha hg (by decide) (by decide) he (by intro _; rfl)
/-- tuple(x) -/
def tupleD : List PyData → Rs PyData
  | [.list ds] => .ok (.tuple ds)
  | [.tuple ds] => .ok (.tuple ds)
  | _ => .bad
theorem callD_tuple : CallD S w (fun vs H Q => ∃ p ys, vs = [.ref p] ∧ ((SqL S.K H p ys ∧ ∀ l, H l = none → Q (.ref l) (upd H l (.tup ys))) ∨ (SqT S.K H p ys ∧ Q (.ref p) H))) tupleD := by
  intro N H vs ds Q E t hv k
  unfold tupleD at k
  split at k
  · obtain ⟨v, rfl, hx⟩ := pd1 hv
    obtain ⟨a, xs, rfl, e1, kk⟩ := hx.lst
    exact ⟨a, xs, rfl, .inl ⟨SqL.of e1, fun p hp => k _ _ (same_upd hp) (.of (dd_tup hp kk))⟩⟩
  · obtain ⟨v, rfl, hx⟩ := pd1 hv
    obtain ⟨a, xs, rfl, e1, kk⟩ := hx.tup
    exact ⟨a, xs, rfl, .inr ⟨e1, k _ H (Same.refl _) (.of (.tup e1 kk))⟩⟩
  · exact k.elim
theorem de_tuple {e : Expr} {p pos : Pos} {fs : Ev → Rs (List PyData)} (hm : S.mg "tuple" = none) (ha : Da true S [e] fs) (hg : Gn S "tuple" := by rfl) (he : ∀ env, starEach [e] env = (false, eval e env) :: starEach [] env := by intro _; rfl) : De w S (.Call (.Name "tuple" p) [e] [] pos) (eCB tupleD fs) :=
  de_callTy (T := "tuple") (fun X E c => by rw [← c.K]; exact call_tuple_of) callD_tuple hm (by decide +kernel) ha hg (by decide) (by decide) he (by intro _; rfl)
/-- list(x): a new one -/
def itemsD : PyData → Rs (List PyData)
  | .list ds => .ok ds
  | .tuple ds => .ok ds
  | .dict [(.none, .list ds)] => .ok ds
  | _ => .bad
/-- tuple(range(n)), list(range(n)) -/
def rgD (a b : Int) : List PyData := (List.range (b - a).toNat).map fun (i : Nat) => PyData.int (a + (i : Int))
theorem dd_rg {N : Addr → Prop} {H : Hp} (a b : Int) : DdAll S.K N H (rgV a b) (rgD a b) := by
  unfold rgV rgD
  have q : ∀ l : List Nat, DdAll S.K N H (l.map fun (i : Nat) => V.int (a + (i : Int))) (l.map fun (i : Nat) => PyData.int (a + (i : Int))) := fun l => by
    induction l with
    | nil => exact .nil
    | cons x l ih => exact .cons (.int _) ih
  exact q _
def rgOk (a b : Int) : Bool := decide (-(2 ^ 62) ≤ a) && decide (a < 2 ^ 62) && decide (-(2 ^ 62) ≤ b) && decide (b < 2 ^ 62) && decide ((b - a).toNat ≤ 2 ^ 24)
theorem rgOk_of {a b : Int} (h : rgOk a b = true) : RgOk a b := by
  unfold rgOk at h
  simp only [Bool.and_eq_true, decide_eq_true_eq] at h
  exact ⟨h.1.1.1.1, h.1.1.1.2, h.1.1.2, h.1.2, h.2⟩
noncomputable def rg1D (f : Ev → Rs PyData) : Ev → Rs (Int × Int) := fun ρ => (f ρ).bind fun
  | .int i => @ite _ (rgOk 0 i = true) (Classical.propDecidable _) (.ok (0, i)) (.bad)
  | _ => .bad
noncomputable def rg2D (f g : Ev → Rs PyData) : Ev → Rs (Int × Int) := fun ρ => (f ρ).bind fun d => (g ρ).bind fun e => match d, e with
  | .int i, .int j => @ite _ (rgOk i j = true) (Classical.propDecidable _) (.ok (i, j)) (.bad)
  | _, _ => .bad
def ER (S : Sx) (H : Hp) (Q : Int → Int → Hp → Prop) (E : XK) : Rs (Int × Int) → Prop
  | .bad => False
  | .err c => ∀ H', Same H H' → E (.ref (S.cls c)) none H'
  | .ok z => ∀ H', Same H H' → RgOk z.1 z.2 → Q z.1 z.2 H'
def Dg (S : Sx) (e : Expr) (f : Ev → Rs (Int × Int)) : Prop :=
  ∃ t : XK → L2.St → Hp → (Int → Int → Hp → Prop) → Prop, (∀ X E, Cs S X E → PRg X e (t E)) ∧ ∀ B H0 N σ H ρ Q E, Rep S.K B H0 N σ H ρ → ER S H Q E (f ρ) → t E σ H Q
theorem dg_1 {a : Expr} {p pos : Pos} {f : Ev → Rs PyData} (hm : S.mg "range" = none) (ha : De true S a f) (hg : Gn S "range" := by rfl) (he : ∀ env, starEach [a] env = (false, eval a env) :: starEach [] env := by intro _; rfl) : Dg S (.Call (.Name "range" p) [a] [] pos) (rg1D f) := by
  obtain ⟨t, h1, h2⟩ := ha
  refine ⟨fun E => tRg1 (t E), fun X E c => prg_1 (gl_of c hg) (by rw [c.mg]; exact hm) (h1 X E c) (he _), fun B H0 N σ H ρ Q E rp k => h2 B H0 N σ H ρ _ E rp ?_⟩
  unfold rg1D at k
  cases e1 : f ρ with
  | bad => rw [e1] at k; exact k
  | err c => rw [e1] at k; exact k
  | ok d =>
    rw [e1, Rs.bind_ok] at k
    intro v H1 s1 k1
    cases d with
    | int i =>
      have k : ER S H Q E (@ite _ (rgOk 0 i = true) (Classical.propDecidable _) (.ok (0, i)) .bad) := k
      by_cases hr : rgOk 0 i = true
      · rw [if_pos hr] at k
        exact ⟨i, (DW.w k1).int, k H1 s1 (rgOk_of hr)⟩
      · rw [if_neg hr] at k
        exact k.elim
    | _ => exact k.elim
def eTupR (f : Ev → Rs (Int × Int)) : Ev → Rs PyData := fun ρ => (f ρ).bind fun z => .ok (.tuple (rgD z.1 z.2))
def lRg (f : Ev → Rs (Int × Int)) : Ev → Rs (List PyData) := fun ρ => (f ρ).bind fun z => .ok (rgD z.1 z.2)
theorem df_listR {e : Expr} {p pos : Pos} {f : Ev → Rs (Int × Int)} (hm : S.mg "list" = none) (h : Dg S e f) (hg : Gn S "list" := by rfl) (he : ∀ env, starEach [e] env = (false, eval e env) :: starEach [] env := by intro _; rfl) : Df S (.Call (.Name "list" p) [e] [] pos) (lRg f) := by
  obtain ⟨t, h1, h2⟩ := h
  refine ⟨fun E => tLstRg (t E), fun X E c => pe_listRg c.calm (gl_of c hg) (by rw [c.mg]; exact hm) (h1 X E c) (he _), fun B H0 N σ H ρ Q E rp k => h2 B H0 N σ H ρ _ E rp ?_⟩
  unfold lRg at k
  cases e1 : f ρ with
  | bad => rw [e1] at k; exact k
  | err c => rw [e1] at k; exact k
  | ok z =>
    rw [e1, Rs.bind_ok] at k
    exact fun H1 s1 hr => ⟨hr, (EF.from s1 k).new (dd_rg _ _)⟩
/-! ### lists of numbers, of truths -/
def asInts : List PyData → Option (List Int)
  | [] => some []
  | .int i :: r => (asInts r).map (i :: ·)
  | _ => none
def asBools : List PyData → Option (List Bool)
  | [] => some []
  | .bool i :: r => (asBools r).map (i :: ·)
  | _ => none
theorem asInts_map : ∀ ns : List Int, asInts (ns.map PyData.int) = some ns
  | [] => rfl
  | n :: r => by rw [List.map_cons, asInts, asInts_map r]; rfl
theorem asBools_map : ∀ ns : List Bool, asBools (ns.map PyData.bool) = some ns
  | [] => rfl
  | n :: r => by rw [List.map_cons, asBools, asBools_map r]; rfl
theorem dd_ints {N : Addr → Prop} {H : Hp} : ∀ {xs : List V} {ds : List PyData} {ns : List Int}, DdAll S.K N H xs ds → asInts ds = some ns → xs = ns.map V.int
  | _, _, ns, .nil, h => by
    cases h
    rfl
  | _, _, ns, .cons a b, h => by
    cases a with
    | int i =>
      rename_i ds
      rw [asInts] at h
      cases q : asInts ds with
      | none => rw [q] at h; cases h
      | some ms =>
        rw [q] at h
        cases h
        rw [dd_ints b q]
        rfl
    | _ => cases h
theorem dd_bools {N : Addr → Prop} {H : Hp} : ∀ {xs : List V} {ds : List PyData} {ns : List Bool}, DdAll S.K N H xs ds → asBools ds = some ns → xs = ns.map V.bl
  | _, _, ns, .nil, h => by
    cases h
    rfl
  | _, _, ns, .cons a b, h => by
    cases a with
    | bl i =>
      rename_i ds
      rw [asBools] at h
      cases q : asBools ds with
      | none => rw [q] at h; cases h
      | some ms =>
        rw [q] at h
        cases h
        rw [dd_bools b q]
        rfl
    | _ => cases h
def sumD : List PyData → Rs PyData
  | [.list ds] => match asInts ds with
    | some ns => .ok (.int ns.sum)
    | none => .bad
  | _ => .bad
def maxI : List Int → Int
  | [] => 0
  | [x] => x
  | x :: y :: r => max x (maxI (y :: r))
theorem maxI_mem : ∀ {ns : List Int}, 0 < ns.length → maxI ns ∈ ns ∧ ∀ y ∈ ns, y ≤ maxI ns
  | [x], _ => ⟨List.mem_singleton.mpr rfl, fun y hy => by rw [List.mem_singleton.mp hy]; exact Int.le_refl _⟩
  | x :: y :: r, _ => by
    obtain ⟨h1, h2⟩ := maxI_mem (ns := y :: r) (by simp)
    show max x (maxI (y :: r)) ∈ _ ∧ ∀ z ∈ _, z ≤ max x (maxI (y :: r))
    refine ⟨?_, fun z hz => ?_⟩
    · by_cases h : x ≤ maxI (y :: r)
      · rw [Int.max_eq_right h]
        exact List.mem_cons_of_mem _ h1
      · rw [Int.max_eq_left (by omega)]
        exact List.mem_cons_self
    · rcases List.mem_cons.mp hz with rfl | hz
      · omega
      · have := h2 z hz
        omega
def allD : List PyData → Rs PyData
  | [.list ds] => match asBools ds with
    | some ns => .ok (.bool (ns.all id))
    | none => .bad
  | _ => .bad
theorem callD_all : CallD S w (rAll S.K) allD := by
  intro N H vs ds Q E t hv k
  unfold allD at k
  split at k
  · split at k
    · rename_i ns hn
      obtain ⟨v, rfl, hx⟩ := pd1 hv
      obtain ⟨a, xs, rfl, e1, kk⟩ := hx.lst
      exact ⟨a, ns, rfl, by rw [← dd_bools kk hn]; exact SqL.of e1, k _ H (Same.refl _) (.of (.bl _))⟩
    · exact k.elim
  · exact k.elim
theorem de_all {e : Expr} {p pos : Pos} {fs : Ev → Rs (List PyData)} (hm : S.mg "all" = none) (ha : Da true S [e] fs) (hg : Gn S "all" := by rfl) (he : ∀ env, starEach [e] env = (false, eval e env) :: starEach [] env := by intro _; rfl) : De w S (.Call (.Name "all" p) [e] [] pos) (eCB allD fs) :=
  de_callB (id := "all") (fun X E c => by rw [← c.K]; exact cr_all c.calm) callD_all hm (by decide +kernel) ha hg (by decide) (by decide) he (by intro _; rfl)
/-! ### numbers -/
def max2D : List PyData → Rs PyData
  | [.int i, .int j] => .ok (.int (if j > i then j else i))
  | _ => .bad
noncomputable def divmodD : List PyData → Rs PyData
  | [.int i, .int j] => @ite _ ((decide (0 < j) && wide j) = true) (Classical.propDecidable _) (.ok (.tuple [.int (i / j), .int (i % j)])) (.bad)
  | _ => .bad
/-! ### isinstance -/
def isDict : PyData → Bool
  | .dict _ => true
  | _ => false
def isiD (T : String) (d : PyData) : Rs PyData := if isDict d then .bad else match kitB (tyD d) T with
  | some b => .ok (.bool b)
  | none => .bad
theorem dw_ty {N : Addr → Prop} {H : Hp} {v : V} {d : PyData} (h : Dw S.K N H v d) (hn : ∀ kvs, d ≠ .dict kvs) : TyX S.K H v (.type (tyD d)) := by
  cases h with
  | own e _ => exact .base (.lst e)
  | dct _ _ => exact absurd rfl (hn _)
  | pen _ _ => exact absurd rfl (hn _)
  | src _ _ _ _ => exact absurd rfl (hn _)
  | desk _ _ _ => exact absurd rfl (hn _)
  | dd h =>
    cases h with
    | non => exact .base .non
    | bl b => exact .base (.bl b)
    | int i => exact .base (.int i)
    | str x => exact .base (.str x)
    | lst e _ _ => exact .base (.lst e)
    | scr _ _ => exact absurd rfl (hn _)
    | ctup _ _ _ _ => exact absurd rfl (hn _)
    | kep _ _ _ _ => exact absurd rfl (hn _)
    | opq => exact absurd rfl (hn _)
    | tup e _ =>
      rcases e with (e | ⟨o, e⟩) | ⟨o, its, n, e, c, _⟩
      · exact .base (.tup e)
      · exact .fTuple e
      · exact .kTuple e c
end
section
variable {S : Sx} {w : Bool}
theorem de_isi {e : Expr} {T : Str} {Tn : String} {p p2 pos : Pos} {f : Ev → Rs PyData} (hm : S.mg "isinstance" = none) (hT : S.mg T = none) (hb : bootBuiltins T = some (.type Tn)) (h : De true S e f) (hg : Gn S "isinstance" := by rfl) (hgT : Gn S T := by rfl)
    (hn : T ≠ "__name__" := by decide) (hd : (T == ("__debug__" : Str)) = false := by decide) (he : ∀ env, starEach [e, .Name T p2] env = (false, eval e env) :: starEach [.Name T p2] env := by intro _; rfl) : De w S (.Call (.Name "isinstance" p) [e, .Name T p2] [] pos) (e1 (isiD Tn) f) := by
  obtain ⟨t, h1, h2⟩ := h
  refine ⟨fun E => tCB (rIsi S.K) (tCons (t E) (tCons (tC (.ty Tn)) tNil)), fun X E c => by
    rw [← c.K]
    exact pe_callB call_isi (gl_of c hg) (by rw [c.mg]; exact hm) (by decide +kernel) (pa_cons (h1 X E c) (pa_cons (pe_bltn (v := .ty Tn) (gl_of c hgT) (by rw [c.mg]; exact hT) hb rfl hn hd) pa_nil rfl) (he _)) (by decide) (by decide) (he _) rfl, fun B H0 N σ H ρ Q E rp k => h2 B H0 N σ H ρ _ E rp ?_⟩
  unfold e1 at k
  cases e1 : f ρ with
  | bad => rw [e1] at k; exact k
  | err c => rw [e1] at k; exact k
  | ok d =>
    rw [e1, Rs.bind_ok] at k
    intro v H1 s1 k1
    unfold isiD at k
    by_cases hi : isDict d = true
    · rw [if_pos hi] at k
      exact k.elim
    · rw [if_neg hi] at k
      cases hk : kitB (tyD d) Tn with
      | none => rw [hk] at k; exact k.elim
      | some b =>
        rw [hk] at k
        exact ⟨v, .ty Tn, .type (tyD d), .type Tn, b, rfl, .ty Tn, dw_ty (DW.w k1) (fun kvs z => hi (by rw [z]; rfl)), kit_ty hk, k _ H1 s1 (.of (.bl _))⟩
theorem isi_int {d : PyData} (h : ∀ kvs, d ≠ .dict kvs) : isiD "int" d = .ok (.bool (intD d)) := by
  have := kit_intD h
  unfold isiD
  rw [this]
  cases d <;> first | rfl | exact absurd rfl (h _)
theorem isi_bool {d : PyData} (h : ∀ kvs, d ≠ .dict kvs) : isiD "bool" d = .ok (.bool (boolD d)) := by
  have := kit_boolD h
  unfold isiD
  rw [this]
  cases d <;> first | rfl | exact absurd rfl (h _)
theorem isi_tuple {d : PyData} (h : ∀ kvs, d ≠ .dict kvs) : isiD "tuple" d = .ok (.bool (tupD d)) := by
  have := kit_tupD h
  unfold isiD
  rw [this]
  cases d <;> first | rfl | exact absurd rfl (h _)
/-! ### defs of the text -/
def spD (K : PySem.W.Frag) (cls : Str → Addr) (n : Nat) (F : List PyData → Rs PyData) : Sp := fun vs H Q E => ∃ N ds, vs.length = n ∧ DdAll K N H vs ds ∧ Told N H ∧
  match F ds with
  | .bad => False
  | .err c => ∀ H', Same H H' → E (.ref (cls c)) none H'
  | .ok d => ∀ v H', Same H H' → Dd K N H' v d → Q v H'
/-- the def at f does as F -/
structure Fd (S : Gx) (k : Nat) (x : Str) (n : Nat) (F : List PyData → Rs PyData) : Prop where
  h : ∃ (f : Addr) (fd : FuncData) (ps : List Str), FnOk S.P S.w S.K S.mg S.base (L2.CX S.P S.w) k f fd ps (spD S.K S.cls n F) ∧ S.mg x = some (.ref f) ∧ PySem.W.keepIn S.K (.ref f) = true ∧ Binds S.K fd ps []
theorem Fd.mono {S : Gx} {j k : Nat} {x : Str} {n : Nat} {F : List PyData → Rs PyData} (h : Fd S j x n F) (l : j ≤ k) : Fd S k x n F := let ⟨f, fd, ps, G, r⟩ := h.h; ⟨f, fd, ps, G.mono l, r⟩
def eCall (F : List PyData → Rs PyData) (fs : Ev → Rs (List PyData)) : Ev → Rs PyData := fun ρ => (fs ρ).bind F
theorem call_end {N : Addr → Prop} {H : Hp} {Q : VK} {E : XK} {n : Nat} {F : List PyData → Rs PyData} {vs : List V} {ds : List PyData} (hl : vs.length = n) (hd : DdAll S.K N H vs ds) (t : Told N H) (k : EE w S N H Q E (F ds)) : spD S.K S.cls n F (vs ++ []) H Q E := by
  rw [List.append_nil]
  refine ⟨N, ds, hl, hd, t, ?_⟩
  cases e : F ds with
  | bad => rw [e] at k; exact k
  | err c => rw [e] at k; exact k
  | ok d =>
    rw [e] at k
    exact fun v H' s' kk => k v H' s' (.of kk)
theorem de_call {x : Str} {e : Expr} {es : List Expr} {n : Nat} {F : List PyData → Rs PyData} {p pos : Pos} {fs : Ev → Rs (List PyData)} (G : Fd S.toGx S.k x n F) (ha : Da false S (e :: es) fs) (hl : (e :: es).length = n := by rfl) (hg : Gn S x := by rfl) (hdb : (x == ("__debug__" : Str)) = false := by decide)
    (he : ∀ env, starEach (e :: es) env = (false, eval e env) :: starEach es env := by intro _; rfl) (hpl : ∀ env, (backTo pos (starEach es env)).any (·.1) = false := by intro _; rfl) : De w S (.Call (.Name x p) (e :: es) [] pos) (eCall F fs) := by
  obtain ⟨f, fd, ps, G, hm, hk, hb⟩ := G.h
  obtain ⟨t, h1, h2, h3⟩ := ha
  refine ⟨fun E => tCall (spD S.K S.cls n F) [] E (t E), fun X E c => ?_, fun B H0 N σ H ρ Q E rp k => h2 B H0 N σ H ρ _ E rp ?_⟩
  · have hx : Passes (L2.CX X.prog X.w) X E := passes_call c.tk fun _ _ _ _ h => h
    rw [← c.p, ← c.w, ← c.K, ← c.mg, ← c.base] at G
    rw [← c.K] at hk hb
    rw [← c.mg] at hm
    show PE X _ (tCall (spD S.K S.cls n F) [] E (t E))
    rw [← c.K]
    exact pe_call G c.room (gl_of c hg) hm hk hb .nil hx (h1 X E c) hdb (he _) (hpl _)
  · unfold eCall at k
    cases e1 : fs ρ with
    | bad => rw [e1] at k; exact k
    | err c => rw [e1] at k; exact k
    | ok ds =>
      rw [e1, Rs.bind_ok] at k
      intro vs H1 s1 k1
      have hd := pd_all k1
      exact call_end (by rw [hd.len, h3 ρ ds e1]; exact hl) hd (rp.same s1).told (k.from s1)
end
/-! ### lists or tuples walked -/
section
variable {X : Cx} {tg : Expr}
/-- an iterator of one new cell has come -/
theorem pie_push {pins : List (Addr × Obj)} {σ : L2.St} {H : Hp} {s : Shared} {R : It → Hp → Prop} {J : It} {o : Obj} {tn : Nat → Heap → Prop} (I : Inv X pins σ H s) (T : Turn X.prog X.w X.K tg J [s.heap.objs.size] s.heap.objs.size tn) (t0 : tn 0 (s.heap.push o)) (q : R J H) : PIE X pins σ tg R (.ref s.heap.objs.size) { s with heap := s.heap.push o } :=
  ⟨_, _, tn, J, H, rfl, I.kept (fun _ _ => Heap.get?_push_of_some _), T, t0, fun b hb => by
    rw [List.mem_singleton.mp hb]
    exact I.fpOk (Nat.le_refl _) (I.hok.fresh (Nat.le_refl _)), q⟩
/-- one of two new cells -/
theorem pie_two {pins : List (Addr × Obj)} {σ : L2.St} {H : Hp} {s : Shared} {h' : Heap} {R : It → Hp → Prop} {J : It} {tn : Nat → Heap → Prop} (I : Inv X pins σ H s) (k : ∀ b o, s.heap.get? b = some o → h'.get? b = some o) (T : Turn X.prog X.w X.K tg J [s.heap.objs.size + 1, s.heap.objs.size] (s.heap.objs.size + 1) tn) (t0 : tn 0 h') (q : R J H) : PIE X pins σ tg R (.ref (s.heap.objs.size + 1)) { s with heap := h' } :=
  ⟨_, _, tn, J, H, rfl, I.kept k, T, t0, fun b hb => by
    have hle : s.heap.objs.size ≤ b := by
      rcases List.mem_cons.mp hb with z | z
      · rw [z]
        exact Nat.le_succ _
      · rw [List.mem_singleton.mp z]
        exact Nat.le_refl _
    exact I.fpOk hle (I.hok.fresh hle), q⟩
def iSeq (K : PySem.W.Frag) (tl : TE) : TI := fun σ H R => tl σ H fun x H1 => ∃ a, x = .ref a ∧ (((∃ xs, SqL K H1 a xs) ∧ R (Itl K a) H1) ∨ ((∃ xs, SqT K H1 a xs) ∧ R (Itt K a) H1))
theorem pi_seq {l : Expr} {tl : TE} (hl : PE X l tl) : PI X tg l (iSeq X.K tl) where
  run := fun pins s σ H R I h => thn (hl.run pins s σ H _ I h) fun v s1 ⟨x, H1, I1, r1, a, e, d⟩ => by
    cases e
    cases r1
    rcases d with ⟨⟨xs, hq⟩, q⟩ | ⟨⟨xs, hq⟩, q⟩
    · obtain ⟨its, -, p, -⟩ := I1.list hq
      exact wpAny_pyIter_list p.isList (pie_push I1 (turn_list a _) ⟨_, Heap.get?_push_size _ rfl, rfl, rfl⟩ q)
    · obtain ⟨its, -, p, -⟩ := I1.tuple hq
      exact wpAny_pyIter_tuple (items := its.toArray) p (pie_push I1 (turn_tuple a _) ⟨_, Heap.get?_push_size _ rfl, rfl, rfl⟩ q)
def iEnumA (K : PySem.W.Frag) (ta : TA) : TI := fun σ H R => ta σ H fun vs H1 => ∃ a xs, vs = [.ref a] ∧ ((SqL K H1 a xs ∧ R (Ite K a) H1) ∨ (SqT K H1 a xs ∧ R (ItE K a) H1))
theorem pi_enumA {e : Expr} {ta : TA} {p pos tpos : Pos} {elts : List Expr} {kk : Nat} (hg : Gl X "enumerate") (hm : X.mg "enumerate" = none) (ha : PA X [e] ta) (hs : starEach [e] X.env = [(false, eval e X.env)] := by rfl) :
    PI X (.Tuple elts kk tpos) (.Call (.Name "enumerate" p) [e] [] pos) (iEnumA X.K ta) where
  run := fun pins s σ H R I h => Call_ (ld_blt I hg hm boot_enumerate (PyProof.Rows.callWith_type1 (thn (ha.run pos pins s σ H _ I h) fun us s1 ⟨vs, H1, I1, r1, a, xs, ex, d⟩ => by
    subst ex
    rcases r1 with _ | ⟨r, _ | _⟩
    cases r
    rcases d with ⟨hq, q⟩ | ⟨hq, q⟩
    · obtain ⟨its, -, p', -⟩ := I1.list hq
      exact call_enumerate_list p'.isList fun h' he hit _ hk => wpAny_pyIter_enum he (pie_two I1 hk (turn_enum a _ _) ⟨⟨.none, he⟩, hit, Nat.succ_ne_self _⟩ q)
    · obtain ⟨its, -, p', -⟩ := I1.tuple hq
      have hal : a < s1.heap.objs.size := let ⟨_, e, _⟩ := p'; Heap.lt_size e
      exact call_enumT p' fun h' he hit hk => wpAny_pyIter_enum he (pie_two I1 hk (turn_enumT a _ _ (fun z => Nat.lt_irrefl _ (Nat.lt_trans (z ▸ hal) (Nat.lt_succ_self _))) (Nat.ne_of_lt hal) (Nat.succ_ne_self _)) ⟨⟨.none, he⟩, hit⟩ q)) hs rfl))
end
section
variable {S : Sx} {w : Bool}
/-! ### what is walked, as a list of data -/
structure JOk (K : PySem.W.Frag) (J : It) (ds : List PyData) (N : Addr → Prop) (H : Hp) : Prop where
  h : ∃ Sr : (Addr → Prop) → Hp → Prop, Sr N H ∧ (∀ N H N' H', Sr N H → KeepF N H N' H' → Sr N' H') ∧ (∀ N H (i : Nat) d, Sr N H → ds[i]? = some d → J.go i H ∧ ∀ v H', J.yld i H v H' → Same H H' ∧ Dd K N H' v d) ∧ ∀ N H, Sr N H → J.stop ds.length H
structure JOkW (K : PySem.W.Frag) (J : It) (ds : List PyData) (N : Addr → Prop) (H1 : Hp) : Prop where
  go : ∀ N' H (i : Nat) d, Same H1 H → KeepF N H1 N' H → ds[i]? = some d → J.go i H ∧ ∀ v H', J.yld i H v H' → Same H H' ∧ Dd K N' H' v d
  stop : ∀ N' H, Same H1 H → KeepF N H1 N' H → J.stop ds.length H
theorem JOk.weak {K : PySem.W.Frag} {J : It} {ds : List PyData} {N : Addr → Prop} {H : Hp} (j : JOk K J ds N H) : JOkW K J ds N H := by
  obtain ⟨Sr, h1, h2, h3, h4⟩ := j.h
  exact ⟨fun N' H' i d _ k e => h3 N' H' i d (h2 _ _ _ _ h1 k) e, fun N' H' _ k => h4 N' H' (h2 _ _ _ _ h1 k)⟩
def EI (Jo : It → List PyData → (Addr → Prop) → Hp → Prop) (S : Sx) (N : Addr → Prop) (H : Hp) (R : It → Hp → Prop) (E : XK) : Rs (List PyData) → Prop
  | .bad => False
  | .err c => ∀ H', Same H H' → E (.ref (S.cls c)) none H'
  | .ok ds => ∀ J H', Same H H' → Jo J ds N H' → R J H'
/-- for a for -/
def Di (S : Sx) (tg iter : Expr) (f : Ev → Rs (List PyData)) : Prop :=
  ∃ t : XK → TI, (∀ X E, Cs S X E → PI X tg iter (t E)) ∧ ∀ B H0 N σ H ρ R E, Rep S.K B H0 N σ H ρ → EI (JOk S.K) S N H R E (f ρ) → t E σ H R
/-- for a comprehension -/
def DiW (S : Sx) (tg iter : Expr) (f : Ev → Rs (List PyData)) : Prop :=
  ∃ t : XK → TI, (∀ X E, Cs S X E → PI X tg iter (t E)) ∧ ∀ B H0 N σ H ρ R E, Rep S.K B H0 N σ H ρ → EI (JOkW S.K) S N H R E (f ρ) → t E σ H R
theorem di_w {tg iter : Expr} {f : Ev → Rs (List PyData)} (h : Di S tg iter f) : DiW S tg iter f := by
  obtain ⟨t, h1, h2⟩ := h
  refine ⟨t, h1, fun B H0 N σ H ρ R E r k => h2 B H0 N σ H ρ R E r ?_⟩
  cases e : f ρ with
  | bad => rw [e] at k; exact k
  | err c => rw [e] at k; exact k
  | ok ds =>
    rw [e] at k
    exact fun J H' s j => k J H' s j.weak
theorem jok_l {N : Addr → Prop} {H : Hp} {a : Addr} {ds : List PyData} (h : Dd S.K N H (.ref a) (.list ds)) : JOk S.K (Itl S.K a) ds N H := by
  refine ⟨fun N H => Dd S.K N H (.ref a) (.list ds), h, fun N H N' H' h k => h.keep k, fun N H i d h e => ?_, fun N H h => ?_⟩
  · cases h with
    | lst e1 _ kk =>
      obtain ⟨v, hv, kv⟩ := kk.get e
      refine ⟨⟨_, v, SqL.of e1, hv⟩, fun v' H' y => ?_⟩
      obtain ⟨rfl, y⟩ := y
      have := y _ (SqL.of e1)
      rw [hv] at this
      cases this
      exact ⟨Same.refl _, kv⟩
  · cases h with
    | lst e1 _ kk => exact ⟨_, SqL.of e1, by rw [kk.len]; exact Nat.le_refl _⟩
theorem jok_s {N : Addr → Prop} {H : Hp} {a : Addr} {ds : List PyData} (h : Dd S.K N H (.ref a) (.dict [(.none, .list ds)])) : JOk S.K (Itl S.K a) ds N H := by
  refine ⟨fun N H => Dd S.K N H (.ref a) (.dict [(.none, .list ds)]), h, fun N H N' H' h k => h.keep k, fun N H i d h e => ?_, fun N H h => ?_⟩
  · obtain ⟨a', xs, e0, e1, kk⟩ := Dw.scr (.dd h)
    cases e0
    obtain ⟨v, hv, kv⟩ := kk.get e
    refine ⟨⟨_, v, e1, hv⟩, fun v' H' y => ?_⟩
    obtain ⟨rfl, y⟩ := y
    have := y _ e1
    rw [hv] at this
    cases this
    exact ⟨Same.refl _, kv⟩
  · obtain ⟨a', xs, e0, e1, kk⟩ := Dw.scr (.dd h)
    cases e0
    exact ⟨_, e1, by rw [kk.len]; exact Nat.le_refl _⟩
theorem jok_t {N : Addr → Prop} {H : Hp} {a : Addr} {ds : List PyData} (h : Dd S.K N H (.ref a) (.tuple ds)) : JOk S.K (Itt S.K a) ds N H := by
  refine ⟨fun N H => Dd S.K N H (.ref a) (.tuple ds), h, fun N H N' H' h k => h.keep k, fun N H i d h e => ?_, fun N H h => ?_⟩
  · cases h with
    | tup e1 kk =>
      obtain ⟨v, hv, kv⟩ := kk.get e
      refine ⟨⟨_, v, e1, hv⟩, fun v' H' y => ?_⟩
      obtain ⟨rfl, y⟩ := y
      have := y _ e1
      rw [hv] at this
      cases this
      exact ⟨Same.refl _, kv⟩
  · cases h with
    | tup e1 kk => exact ⟨_, e1, by rw [kk.len]; exact Nat.le_refl _⟩
def iItems (f : Ev → Rs PyData) : Ev → Rs (List PyData) := fun ρ => (f ρ).bind itemsD
theorem dd_ref_l {N : Addr → Prop} {H : Hp} {v : V} {ds : List PyData} (h : Dd S.K N H v (.list ds)) : ∃ a xs, v = .ref a ∧ H a = some (.lst xs) := by
  cases h with
  | lst e _ _ => exact ⟨_, _, rfl, e⟩
theorem di_seq {tg e : Expr} {f : Ev → Rs PyData} (h : De false S e f) : Di S tg e (iItems f) := by
  obtain ⟨t, h1, h2⟩ := h
  refine ⟨fun E => iSeq S.K (t E), fun X E c => by rw [← c.K]; exact pi_seq (h1 X E c), fun B H0 N σ H ρ R E rp k => h2 B H0 N σ H ρ _ E rp ?_⟩
  unfold iItems at k
  cases e1 : f ρ with
  | bad => rw [e1] at k; exact k
  | err c => rw [e1] at k; exact k
  | ok d =>
    rw [e1, Rs.bind_ok] at k
    intro v H1 s1 k1
    have k1 : Dd S.K N H1 v d := k1
    unfold itemsD at k
    split at k
    · obtain ⟨a, xs, rfl, e1⟩ := dd_ref_l k1
      exact ⟨a, rfl, .inl ⟨⟨xs, SqL.of e1⟩, k _ H1 s1 (jok_l k1)⟩⟩
    · obtain ⟨a, xs, rfl, e1, _⟩ := Dw.tup (.dd k1)
      exact ⟨a, rfl, .inr ⟨⟨xs, e1⟩, k _ H1 s1 (jok_t k1)⟩⟩
    · obtain ⟨a, xs, rfl, e1, _⟩ := Dw.scr (.dd k1)
      exact ⟨a, rfl, .inl ⟨⟨xs, e1⟩, k _ H1 s1 (jok_s k1)⟩⟩
    · exact k.elim
/-- a comprehension over what may be a list that is still changed -/
theorem jokw_own {N : Addr → Prop} {H : Hp} {a : Addr} {xs : List V} {ds : List PyData} (e1 : H a = some (.lst xs)) (kk : DdAll S.K N H xs ds) : JOkW S.K (Itl S.K a) ds N H := by
  refine ⟨fun N' H' i d s k e => ?_, fun N' H' s k => ⟨xs, SqL.of (s _ _ e1), by rw [kk.len]; exact Nat.le_refl _⟩⟩
  obtain ⟨v, hv, kv⟩ := kk.get e
  refine ⟨⟨_, v, SqL.of (s _ _ e1), hv⟩, fun v' H2 y => ?_⟩
  obtain ⟨rfl, y⟩ := y
  have := y _ (SqL.of (s _ _ e1))
  rw [hv] at this
  cases this
  exact ⟨Same.refl _, kv.keep k⟩
theorem diw_seq {tg e : Expr} {f : Ev → Rs PyData} (h : De true S e f) : DiW S tg e (iItems f) := by
  obtain ⟨t, h1, h2⟩ := h
  refine ⟨fun E => iSeq S.K (t E), fun X E c => by rw [← c.K]; exact pi_seq (h1 X E c), fun B H0 N σ H ρ R E rp k => h2 B H0 N σ H ρ _ E rp ?_⟩
  unfold iItems at k
  cases e1 : f ρ with
  | bad => rw [e1] at k; exact k
  | err c => rw [e1] at k; exact k
  | ok d =>
    rw [e1, Rs.bind_ok] at k
    intro v H1 s1 k1
    have k1 : Dw S.K N H1 v d := k1
    unfold itemsD at k
    split at k
    · obtain ⟨a, xs, rfl, e1, kk⟩ := k1.lst
      exact ⟨a, rfl, .inl ⟨⟨xs, SqL.of e1⟩, k _ H1 s1 (jokw_own e1 kk)⟩⟩
    · cases k1 with
      | dd k1 =>
        obtain ⟨a, xs, rfl, e1, _⟩ := Dw.tup (.dd k1)
        exact ⟨a, rfl, .inr ⟨⟨xs, e1⟩, k _ H1 s1 (jok_t k1).weak⟩⟩
    · cases k1 with
      | dd k1 =>
        obtain ⟨a, xs, rfl, e1, _⟩ := Dw.scr (.dd k1)
        exact ⟨a, rfl, .inl ⟨⟨xs, e1⟩, k _ H1 s1 (jok_s k1).weak⟩⟩
    · exact k.elim
/-- range -/
def iRg (f : Ev → Rs (Int × Int)) : Ev → Rs (List PyData) := fun ρ => (f ρ).bind fun z => .ok (rgD z.1 z.2)
theorem rgD_get {a b : Int} {i : Nat} {d : PyData} (h : (rgD a b)[i]? = some d) : i < (b - a).toNat ∧ d = .int (a + (i : Int)) := by
  unfold rgD at h
  rw [List.getElem?_map] at h
  cases e : (List.range (b - a).toNat)[i]? with
  | none => rw [e] at h; cases h
  | some j =>
    rw [e] at h
    obtain ⟨h1, h2⟩ := List.getElem?_eq_some_iff.mp e
    rw [List.length_range] at h1
    rw [List.getElem_range] at h2
    subst h2
    exact ⟨h1, (Option.some.inj h).symm⟩
theorem rgD_len (a b : Int) : (rgD a b).length = (b - a).toNat := by unfold rgD; rw [List.length_map, List.length_range]
theorem jok_r {N : Addr → Prop} {H : Hp} (a b : Int) : JOk S.K (Itr a (b - a).toNat) (rgD a b) N H := by
  refine ⟨fun _ _ => True, trivial, fun _ _ _ _ _ _ => trivial, fun N H i d _ e => ?_, fun N H _ => ?_⟩
  · obtain ⟨h1, rfl⟩ := rgD_get e
    refine ⟨h1, fun v H' y => ?_⟩
    obtain ⟨rfl, rfl⟩ := y
    exact ⟨Same.refl _, .int _⟩
  · rw [rgD_len]
    exact Nat.le_refl _
theorem di_rg1 {tg a : Expr} {p pos : Pos} {f : Ev → Rs PyData} (hm : S.mg "range" = none) (ha : De true S a f) (hg : Gn S "range" := by rfl) (he : ∀ env, starEach [a] env = [(false, eval a env)] := by intro _; rfl) : Di S tg (.Call (.Name "range" p) [a] [] pos) (iRg (rg1D f)) := by
  obtain ⟨t, h1, h2⟩ := ha
  refine ⟨fun E => iRng1 (tCons (t E) tNil), fun X E c => pi_range1 (gl_of c hg) (by rw [c.mg]; exact hm) (pa_cons (h1 X E c) pa_nil (by rw [he]; rfl)) (he _), fun B H0 N σ H ρ R E rp k => h2 B H0 N σ H ρ _ E rp ?_⟩
  unfold iRg rg1D at k
  cases e1 : f ρ with
  | bad => rw [e1] at k; exact k
  | err c => rw [e1] at k; exact k
  | ok d =>
    rw [e1, Rs.bind_ok] at k
    intro v H1 s1 k1
    cases d with
    | int i =>
      have k : EI (JOk S.K) S N H R E ((@ite _ (rgOk 0 i = true) (Classical.propDecidable _) (Rs.ok (0, i)) .bad).bind fun z => .ok (rgD z.1 z.2)) := k
      by_cases hr : rgOk 0 i = true
      · rw [if_pos hr] at k
        have ho := rgOk_of hr
        cases (DW.w k1).int
        refine ⟨i, rfl, ho.2.2.1, ho.2.2.2.1, ?_⟩
        have := k _ H1 s1 (jok_r (0, i).1 (0, i).2)
        rw [Int.sub_zero] at this
        exact this
      · rw [if_neg hr] at k
        exact k.elim
    | _ => exact k.elim
/-- enumerate -/
def enumG : Nat → List PyData → List PyData
  | _, [] => []
  | i, d :: ds => .tuple [.int (i : Int), d] :: enumG (i + 1) ds
theorem enumG_get : ∀ {ds : List PyData} {k i : Nat} {d : PyData}, (enumG k ds)[i]? = some d → ∃ e, ds[i]? = some e ∧ d = .tuple [.int ((k + i : Nat) : Int), e]
  | [], k, i, d, h => by simp [enumG] at h
  | e :: ds, k, 0, d, h => by
    simp only [enumG, List.getElem?_cons_zero, Option.some.injEq] at h
    exact ⟨e, rfl, h.symm⟩
  | e :: ds, k, i + 1, d, h => by
    simp only [enumG, List.getElem?_cons_succ] at h
    obtain ⟨z, h1, h2⟩ := enumG_get h
    refine ⟨z, h1, ?_⟩
    rw [h2, show k + 1 + i = k + (i + 1) by omega]
theorem enumG_len : ∀ (ds : List PyData) (k : Nat), (enumG k ds).length = ds.length
  | [], _ => rfl
  | _ :: ds, k => by simp [enumG, enumG_len ds]
def iEnumD (f : Ev → Rs PyData) : Ev → Rs (List PyData) := fun ρ => (f ρ).bind fun d => (itemsD d).bind fun ds => .ok (enumG 0 ds)
theorem dd_pair {N : Addr → Prop} {H : Hp} {T : Addr} {x y : V} {d e : PyData} (h : H T = none) (hx : Dd S.K N H x d) (hy : Dd S.K N H y e) : Dd S.K N (upd H T (.tup [x, y])) (.ref T) (.tuple [d, e]) := dd_tup h (.cons hx (.cons hy .nil))
theorem jok_el {N : Addr → Prop} {H : Hp} {a : Addr} {ds : List PyData} (h : Dd S.K N H (.ref a) (.list ds)) : JOk S.K (Ite S.K a) (enumG 0 ds) N H := by
  refine ⟨fun N H => Dd S.K N H (.ref a) (.list ds), h, fun N H N' H' h k => h.keep k, fun N H i d h e => ?_, fun N H h => ?_⟩
  · obtain ⟨e0, he, rfl⟩ := enumG_get e
    cases h with
    | lst e1 _ kk =>
      obtain ⟨v, hv, kv⟩ := kk.get he
      refine ⟨⟨_, v, SqL.of e1, hv⟩, fun v' H' y => ?_⟩
      obtain ⟨T, x, rfl, hT, rfl, y⟩ := y
      have := y _ (SqL.of e1)
      rw [hv] at this
      cases this
      exact ⟨same_upd hT, dd_pair hT (by rw [Nat.zero_add]; exact .int _) kv⟩
  · cases h with
    | lst e1 _ kk => exact ⟨_, SqL.of e1, by rw [kk.len, enumG_len]; exact Nat.le_refl _⟩
theorem jok_es {N : Addr → Prop} {H : Hp} {a : Addr} {ds : List PyData} (h : Dd S.K N H (.ref a) (.dict [(.none, .list ds)])) : JOk S.K (Ite S.K a) (enumG 0 ds) N H := by
  refine ⟨fun N H => Dd S.K N H (.ref a) (.dict [(.none, .list ds)]), h, fun N H N' H' h k => h.keep k, fun N H i d h e => ?_, fun N H h => ?_⟩
  · obtain ⟨e0, he, rfl⟩ := enumG_get e
    obtain ⟨a', xs, q, e1, kk⟩ := Dw.scr (.dd h)
    cases q
    obtain ⟨v, hv, kv⟩ := kk.get he
    refine ⟨⟨_, v, e1, hv⟩, fun v' H' y => ?_⟩
    obtain ⟨T, x, rfl, hT, rfl, y⟩ := y
    have := y _ e1
    rw [hv] at this
    cases this
    exact ⟨same_upd hT, dd_pair hT (by rw [Nat.zero_add]; exact .int _) kv⟩
  · obtain ⟨a', xs, q, e1, kk⟩ := Dw.scr (.dd h)
    cases q
    exact ⟨_, e1, by rw [kk.len, enumG_len]; exact Nat.le_refl _⟩
theorem jok_et {N : Addr → Prop} {H : Hp} {a : Addr} {ds : List PyData} (h : Dd S.K N H (.ref a) (.tuple ds)) : JOk S.K (ItE S.K a) (enumG 0 ds) N H := by
  refine ⟨fun N H => Dd S.K N H (.ref a) (.tuple ds), h, fun N H N' H' h k => h.keep k, fun N H i d h e => ?_, fun N H h => ?_⟩
  · obtain ⟨e0, he, rfl⟩ := enumG_get e
    cases h with
    | tup e1 kk =>
      obtain ⟨v, hv, kv⟩ := kk.get he
      refine ⟨⟨_, v, e1, hv⟩, fun v' H' y => ?_⟩
      obtain ⟨T, x, rfl, hT, rfl, y⟩ := y
      have := y _ e1
      rw [hv] at this
      cases this
      exact ⟨same_upd hT, dd_pair hT (by rw [Nat.zero_add]; exact .int _) kv⟩
  · cases h with
    | tup e1 kk => exact ⟨_, e1, by rw [kk.len, enumG_len]; exact Nat.le_refl _⟩
theorem di_enum {elts : List Expr} {kk : Nat} {tpos : Pos} {e : Expr} {p pos : Pos} {f : Ev → Rs PyData} (hm : S.mg "enumerate" = none) (h : De false S e f) (hg : Gn S "enumerate" := by rfl) (he : ∀ env, starEach [e] env = [(false, eval e env)] := by intro _; rfl) : Di S (.Tuple elts kk tpos) (.Call (.Name "enumerate" p) [e] [] pos) (iEnumD f) := by
  obtain ⟨t, h1, h2⟩ := h
  refine ⟨fun E => iEnumA S.K (tCons (t E) tNil), fun X E c => by rw [← c.K]; exact pi_enumA (gl_of c hg) (by rw [c.mg]; exact hm) (pa_cons (h1 X E c) pa_nil (by rw [he]; rfl)) (he _), fun B H0 N σ H ρ R E rp k => h2 B H0 N σ H ρ _ E rp ?_⟩
  unfold iEnumD at k
  cases e1 : f ρ with
  | bad => rw [e1] at k; exact k
  | err c => rw [e1] at k; exact k
  | ok d =>
    rw [e1, Rs.bind_ok] at k
    intro v H1 s1 k1
    have k1 : Dd S.K N H1 v d := k1
    unfold itemsD at k
    split at k
    · obtain ⟨a, xs, rfl, e1⟩ := dd_ref_l k1
      exact ⟨a, xs, rfl, .inl ⟨SqL.of e1, k _ H1 s1 (jok_el k1)⟩⟩
    · obtain ⟨a, xs, rfl, e1, _⟩ := Dw.tup (.dd k1)
      exact ⟨a, xs, rfl, .inr ⟨e1, k _ H1 s1 (jok_et k1)⟩⟩
    · obtain ⟨a, xs, rfl, e1, _⟩ := Dw.scr (.dd k1)
      exact ⟨a, xs, rfl, .inl ⟨e1, k _ H1 s1 (jok_es k1)⟩⟩
    · exact k.elim
/-- zip -/
def zipD : List PyData → List PyData → List PyData
  | a :: as, b :: bs => .tuple [a, b] :: zipD as bs
  | _, _ => []
theorem zipD_get : ∀ {as bs : List PyData} {i : Nat} {d : PyData}, (zipD as bs)[i]? = some d → ∃ a b, as[i]? = some a ∧ bs[i]? = some b ∧ d = .tuple [a, b]
  | [], _, i, d, h => by simp [zipD] at h
  | _ :: _, [], i, d, h => by simp [zipD] at h
  | a :: as, b :: bs, 0, d, h => by
    simp only [zipD, List.getElem?_cons_zero, Option.some.injEq] at h
    exact ⟨a, b, rfl, rfl, h.symm⟩
  | a :: as, b :: bs, i + 1, d, h => by
    simp only [zipD, List.getElem?_cons_succ] at h
    exact zipD_get (as := as) (bs := bs) (i := i) h
theorem zipD_len : ∀ (as bs : List PyData), (zipD as bs).length = min as.length bs.length
  | [], _ => by simp [zipD]
  | _ :: _, [] => by simp [zipD]
  | a :: as, b :: bs => by simp [zipD, zipD_len as bs]
def iZipD (fs : Ev → Rs (List PyData)) : Ev → Rs (List PyData) := fun ρ => (fs ρ).bind fun
  | [.tuple as, .tuple bs] => .ok (zipD as bs)
  | [.list as, .list bs] => .ok (zipD as bs)
  | _ => .bad
theorem jok_ztt {N : Addr → Prop} {H : Hp} {a b : Addr} {as bs : List PyData} (h : Dd S.K N H (.ref a) (.tuple as)) (h' : Dd S.K N H (.ref b) (.tuple bs)) : JOk S.K (RZ.ItzT S.K a b) (zipD as bs) N H := by
  refine ⟨fun N H => Dd S.K N H (.ref a) (.tuple as) ∧ Dd S.K N H (.ref b) (.tuple bs), ⟨h, h'⟩, fun N H N' H' h k => ⟨h.1.keep k, h.2.keep k⟩, fun N H i d h e => ?_, fun N H h => ?_⟩
  · obtain ⟨x, y, hx, hy, rfl⟩ := zipD_get e
    obtain ⟨h, h'⟩ := h
    cases h with
    | tup e1 k1 =>
      cases h' with
      | tup e2 k2 =>
        obtain ⟨v, hv, kv⟩ := k1.get hx
        obtain ⟨u, hu, ku⟩ := k2.get hy
        refine ⟨⟨_, _, v, u, e1, e2, hv, hu⟩, fun v' H' z => ?_⟩
        obtain ⟨T, x', y', rfl, hT, rfl, z1, z2⟩ := z
        have q1 := z1 _ e1
        have q2 := z2 _ e2
        rw [hv] at q1
        rw [hu] at q2
        cases q1
        cases q2
        exact ⟨same_upd hT, dd_pair hT kv ku⟩
  · obtain ⟨h, h'⟩ := h
    cases h with
    | tup e1 k1 =>
      cases h' with
      | tup e2 k2 => exact ⟨_, _, e1, e2, by rw [k1.len, k2.len, zipD_len]; omega⟩
theorem jok_zll {N : Addr → Prop} {H : Hp} {a b : Addr} {as bs : List PyData} (h : Dd S.K N H (.ref a) (.list as)) (h' : Dd S.K N H (.ref b) (.list bs)) : JOk S.K (Itz S.K a b) (zipD as bs) N H := by
  refine ⟨fun N H => Dd S.K N H (.ref a) (.list as) ∧ Dd S.K N H (.ref b) (.list bs), ⟨h, h'⟩, fun N H N' H' h k => ⟨h.1.keep k, h.2.keep k⟩, fun N H i d h e => ?_, fun N H h => ?_⟩
  · obtain ⟨x, y, hx, hy, rfl⟩ := zipD_get e
    obtain ⟨h, h'⟩ := h
    cases h with
    | lst e1 _ k1 =>
      cases h' with
      | lst e2 _ k2 =>
        obtain ⟨v, hv, kv⟩ := k1.get hx
        obtain ⟨u, hu, ku⟩ := k2.get hy
        refine ⟨⟨_, _, v, u, SqL.of e1, SqL.of e2, hv, hu⟩, fun v' H' z => ?_⟩
        obtain ⟨T, x', y', rfl, hT, rfl, z1, z2⟩ := z
        have q1 := z1 _ (SqL.of e1)
        have q2 := z2 _ (SqL.of e2)
        rw [hv] at q1
        rw [hu] at q2
        cases q1
        cases q2
        exact ⟨same_upd hT, dd_pair hT kv ku⟩
  · obtain ⟨h, h'⟩ := h
    cases h with
    | lst e1 _ k1 =>
      cases h' with
      | lst e2 _ k2 => exact ⟨_, _, SqL.of e1, SqL.of e2, by rw [k1.len, k2.len, zipD_len]; omega⟩
theorem di_zip {elts : List Expr} {kk : Nat} {tpos : Pos} {e e' : Expr} {p pos : Pos} {fs : Ev → Rs (List PyData)} (hm : S.mg "zip" = none) (h : Da false S [e, e'] fs) (hg : Gn S "zip" := by rfl) (he : ∀ env, starEach [e, e'] env = (false, eval e env) :: starEach [e'] env := by intro _; rfl) (hpl : ∀ env, (backTo pos (starEach [e'] env)).any (·.1) = false := by intro _; rfl) : Di S (.Tuple elts kk tpos) (.Call (.Name "zip" p) [e, e'] [] pos) (iZipD fs) := by
  obtain ⟨t, h1, h2, _⟩ := h
  refine ⟨fun E => RZ.iZipA S.K (t E), fun X E c => by rw [← c.K]; exact RZ.pi_zipA (gl_of c hg) (by rw [c.mg]; exact hm) (h1 X E c) (he _) (hpl _), fun B H0 N σ H ρ R E rp k => h2 B H0 N σ H ρ _ E rp ?_⟩
  unfold iZipD at k
  cases e1 : fs ρ with
  | bad => rw [e1] at k; exact k
  | err c => rw [e1] at k; exact k
  | ok d =>
    rw [e1, Rs.bind_ok] at k
    intro vs H1 s1 k1
    split at k
    · obtain ⟨v, u, rfl, hx, hy⟩ := pd2 k1
      obtain ⟨a, xs, rfl, e1, _⟩ := Dw.tup (.dd hx)
      obtain ⟨b, ys, rfl, e2, _⟩ := Dw.tup (.dd hy)
      exact ⟨a, b, xs, ys, rfl, .inr ⟨e1, e2, k _ H1 s1 (jok_ztt hx hy)⟩⟩
    · obtain ⟨v, u, rfl, hx, hy⟩ := pd2 k1
      obtain ⟨a, xs, rfl, e1⟩ := dd_ref_l hx
      obtain ⟨b, ys, rfl, e2⟩ := dd_ref_l hy
      exact ⟨a, b, xs, ys, rfl, .inl ⟨SqL.of e1, SqL.of e2, k _ H1 s1 (jok_zll hx hy)⟩⟩
    · exact k.elim
end
/-! ### slots forgotten -/
theorem wipe_get (σ : L2.St) : ∀ (vs : List Nat) (j : Nat), (wipe σ vs)[j]? = if j ∈ vs then (if j < σ.length then some none else none) else σ[j]?
  | [], j => by simp [wipe]
  | v :: vs, j => by
    have ih := wipe_get σ vs j
    unfold wipe
    by_cases hj : v = j
    · subst hj
      rw [if_pos List.mem_cons_self]
      by_cases hl : v < σ.length
      · rw [if_pos hl, List.getElem?_set_self (by rw [wipe_length]; exact hl)]
      · rw [if_neg hl, List.getElem?_eq_none (by rw [List.length_set, wipe_length]; omega)]
    · rw [List.getElem?_set_ne hj, ih]
      by_cases hm : j ∈ vs
      · rw [if_pos hm, if_pos (List.mem_cons_of_mem _ hm)]
      · rw [if_neg hm, if_neg (by simp only [List.mem_cons, not_or]; exact ⟨fun z => hj z.symm, hm⟩)]
theorem wipe_set {σ : L2.St} {vs : List Nat} {i : Nat} {x : Option V} (h : i ∈ vs) : wipe (σ.set i x) vs = wipe σ vs := by
  refine List.ext_getElem? fun j => ?_
  rw [wipe_get, wipe_get, List.length_set]
  by_cases hj : j ∈ vs
  · rw [if_pos hj, if_pos hj]
  · rw [if_neg hj, if_neg hj, List.getElem?_set_ne (fun z => hj (by rw [← z]; exact h))]
def wipeE (ρ : Ev) : List Nat → Ev
  | [] => ρ
  | v :: vs => (wipeE ρ vs).set v none
section
variable {K : PySem.W.Frag} {B : Addr → Prop} {H0 : Hp} {N : Addr → Prop} {σ : L2.St} {H : Hp} {ρ : Ev}
theorem set_cases {α : Type} {l : List α} {i j : Nat} {x y : α} (h : (l.set i x)[j]? = some y) : (j = i ∧ y = x ∧ i < l.length) ∨ (j ≠ i ∧ l[j]? = some y) := by
  by_cases e : i = j
  · subst e
    by_cases hl : i < l.length
    · rw [List.getElem?_set_self hl] at h
      exact .inl ⟨rfl, (Option.some.inj h).symm, hl⟩
    · rw [List.getElem?_eq_none (by rw [List.length_set]; omega)] at h
      cases h
  · rw [List.getElem?_set_ne e] at h
    exact .inr ⟨fun z => e z.symm, h⟩
theorem One.set {ρ : Ev} (r : One ρ) {i : Nat} {z : Option (Bool × PyData)} (h : ∀ {d}, z = some (true, d) → adrOf d = none) : One (ρ.set i z) := fun j k d e a a' b q1 q2 n1 n2 => by
  rcases set_cases q1 with ⟨_, z1, _⟩ | ⟨_, q1⟩
  · rw [h z1.symm] at n1; cases n1
  · rcases set_cases q2 with ⟨_, z2, _⟩ | ⟨_, q2⟩
    · rw [h z2.symm] at n2; cases n2
    · exact r j k d e a a' b q1 q2 n1 n2
theorem Rep.unset (r : Rep K B H0 N σ H ρ) (i : Nat) : Rep K B H0 N (σ.set i none) H (ρ.set i none) where
  len := by rw [List.length_set, List.length_set]; exact r.len
  base := r.base
  told := r.told
  hB := r.hB
  frz := fun j d h => by
    rcases set_cases h with ⟨_, z, _⟩ | ⟨n, h⟩
    · cases z
    · obtain ⟨v, e, k⟩ := r.frz j d h
      exact ⟨v, by rw [List.getElem?_set_ne (Ne.symm n)]; exact e, k⟩
  own := fun j d h => by
    rcases set_cases h with ⟨_, z, _⟩ | ⟨n, h⟩
    · cases z
    · obtain ⟨a, o, e, k⟩ := r.own j d h
      exact ⟨a, o, by rw [List.getElem?_set_ne (Ne.symm n)]; exact e, k⟩
  inj := fun j k d e a h1 h2 h3 h4 => by
    rcases set_cases h1 with ⟨_, z, _⟩ | ⟨n1, h1⟩
    · cases z
    · rcases set_cases h2 with ⟨_, z, _⟩ | ⟨n2, h2⟩
      · cases z
      · rw [List.getElem?_set_ne (Ne.symm n1)] at h3
        rw [List.getElem?_set_ne (Ne.symm n2)] at h4
        exact r.inj j k d e a h1 h2 h3 h4
  inn := fun j d a b h hb => by
    rcases set_cases h with ⟨_, z, _⟩ | ⟨n, h⟩
    · cases z
    · obtain ⟨e1, e2, e3, e4, e5⟩ := r.inn j d a b h hb
      refine ⟨e1, e2, e3, e4, fun k e c q1 q2 => ?_⟩
      rcases set_cases q1 with ⟨_, z, _⟩ | ⟨n2, q1⟩
      · cases z
      · rw [List.getElem?_set_ne (Ne.symm n2)] at q2
        exact e5 k e c q1 q2
  one := r.one.set (fun z => by cases z)
theorem Rep.wipe (r : Rep K B H0 N σ H ρ) : ∀ vs : List Nat, Rep K B H0 N (L2.wipe σ vs) H (wipeE ρ vs)
  | [] => r
  | v :: vs => (Rep.wipe r vs).unset v
theorem Rep.set (r : Rep K B H0 N σ H ρ) (i : Nat) {v : V} {d : PyData} (hv : Dd K N H v d) : Rep K B H0 N (σ.set i (some v)) H (ρ.set i (some (false, d))) where
  len := by rw [List.length_set, List.length_set]; exact r.len
  base := r.base
  told := r.told
  hB := r.hB
  frz := fun j d' h => by
    rcases set_cases h with ⟨rfl, z, hl⟩ | ⟨n, h⟩
    · cases z
      exact ⟨v, List.getElem?_set_self (by rw [r.len]; exact hl), hv⟩
    · obtain ⟨v, e, k⟩ := r.frz j d' h
      exact ⟨v, by rw [List.getElem?_set_ne (Ne.symm n)]; exact e, k⟩
  own := fun j d' h => by
    rcases set_cases h with ⟨_, z, _⟩ | ⟨n, h⟩
    · cases z
    · obtain ⟨a, o, e, k⟩ := r.own j d' h
      exact ⟨a, o, by rw [List.getElem?_set_ne (Ne.symm n)]; exact e, k⟩
  inj := fun j k d e a h1 h2 h3 h4 => by
    rcases set_cases h1 with ⟨_, z, _⟩ | ⟨n1, h1⟩
    · cases z
    · rcases set_cases h2 with ⟨_, z, _⟩ | ⟨n2, h2⟩
      · cases z
      · rw [List.getElem?_set_ne (Ne.symm n1)] at h3
        rw [List.getElem?_set_ne (Ne.symm n2)] at h4
        exact r.inj j k d e a h1 h2 h3 h4
  inn := fun j d a b h hb => by
    rcases set_cases h with ⟨_, z, _⟩ | ⟨n, h⟩
    · cases z
    · obtain ⟨e1, e2, e3, e4, e5⟩ := r.inn j d a b h hb
      refine ⟨e1, e2, e3, e4, fun k e c q1 q2 => ?_⟩
      rcases set_cases q1 with ⟨_, z, _⟩ | ⟨n2, q1⟩
      · cases z
      · rw [List.getElem?_set_ne (Ne.symm n2)] at q2
        exact e5 k e c q1 q2
  one := r.one.set (fun z => by cases z)
theorem SameX.of {D : Addr} {H H' : Hp} (s : Same H H') : SameX D H H' := fun a o _ e => s a o e
theorem SameX.trans {D : Addr} {H H1 H2 : Hp} (a : SameX D H H1) (b : SameX D H1 H2) : SameX D H H2 := fun c o n e => b c o n (a c o n e)
theorem SameX.upd {D : Addr} {H H1 : Hp} {o : HO} (a : SameX D H H1) : SameX D H (L2.upd H1 D o) := fun c u n e => by
  rw [upd_ne n]
  exact a c u n e
theorem keep_x {D : Addr} {H H' : Hp} {xs : List V} (s : SameX D H H') (nD : N D) (e : H D = some (.lst xs)) : KeepF N H N H' := by
  refine ⟨fun a o h n => ⟨s a o (fun z => n (by rw [z]; exact nD)) h, n⟩, fun a ys h => ?_⟩
  rcases h with h | ⟨o, h⟩
  · exact .inl (s _ _ (ne_of h e (by intro z; cases z)) h)
  · exact .inr ⟨o, s _ _ (ne_of h e (by intro z; cases z)) h⟩
theorem keep_o {K : PySem.W.Frag} {D : Addr} {H H' : Hp} {o : HO} {d : PyData} (s : SameX D H H') (nD : N D) (e : H D = some o) (k : OwnD K N H D o d) : KeepF N H N H' := by
  cases k with
  | lst k => exact keep_x s nD e
  | pen k => exact keep_x s nD e
  | src ns x y => exact keep_x s nD e
  | desk m _ =>
    refine ⟨fun a o h n => ⟨s a o (fun z => n (by rw [z]; exact nD)) h, n⟩, fun a ys h => ?_⟩
    rcases h with h | ⟨o, h⟩
    · exact .inl (s _ _ (ne_of h e (by intro z; cases z)) h)
    · exact .inr ⟨o, s _ _ (ne_of h e (by intro z; cases z)) h⟩
  | dct kvs =>
    refine ⟨fun a o h n => ⟨s a o (fun z => n (by rw [z]; exact nD)) h, n⟩, fun a ys h => ?_⟩
    rcases h with h | ⟨o, h⟩
    · exact .inl (s _ _ (ne_of h e (by intro z; cases z)) h)
    · exact .inr ⟨o, s _ _ (ne_of h e (by intro z; cases z)) h⟩
theorem Rep.moveX {D : Addr} {H' : Hp} {xs ys : List V} (r : Rep K B H0 N σ H ρ) (s : SameX D H H') (nD : N D) (e : H D = some (.lst xs)) (e' : H' D = some (.lst ys)) (h0 : H0 D = none) (bD : B D) : Rep K B H0 N σ H' ρ where
  len := r.len
  base := fun a o h => s a o (ne_of_none h h0) (r.base a o h)
  told := fun a n h => by
    by_cases z : a = D
    · rw [z, e'] at h
      cases h
    · cases q : H a with
      | none => exact r.told a n q
      | some o =>
        rw [s a o z q] at h
        cases h
  hB := r.hB
  frz := fun i d h => let ⟨v, e1, k⟩ := r.frz i d h; ⟨v, e1, k.keep (keep_x s nD e)⟩
  own := fun i d h => by
    obtain ⟨a, o, e1, e3, e4, e5⟩ := r.own i d h
    exact ⟨a, o, e1, s _ _ (fun z => e5.2.2 (by rw [z]; exact bD)) e3, e4.keep (keep_x s nD e), e5⟩
  inj := r.inj
  inn := fun i d a b h hb => by
    obtain ⟨e1, e2, e3, e4, e5⟩ := r.inn i d a b h hb
    exact ⟨e1.keep (keep_x s nD e) (fun o q => s _ _ (fun z => e4 (by rw [z]; exact bD)) q), e2, e3, e4, e5⟩
  one := r.one
/-- a new list of one's own -/
theorem Rep.enter {D : Addr} {H' : Hp} (r : Rep K B H0 N σ H ρ) (s : Same H H') (h : H D = none) (e : H' D ≠ none) : Rep K B H0 (fun a => N a ∨ a = D) σ H' ρ := by
  have kf : KeepF N H (fun a => N a ∨ a = D) H' := ⟨fun a o q n => ⟨s a o q, fun z => z.elim n (ne_of_none q h)⟩, fun a xs q => same_rd s q⟩
  exact ⟨r.len, r.base.trans s, fun a n q => n.elim (fun n => (r.told.same s) a n q) fun z => e (by rw [← z]; exact q), fun a b => .inl (r.hB a b), fun i d q => let ⟨v, e1, k⟩ := r.frz i d q; ⟨v, e1, k.keep kf⟩,
    fun i d q => let ⟨a, o, e1, e3, e4, e5, e6, e7⟩ := r.own i d q; ⟨a, o, e1, s _ _ e3, e4.keep kf, e5, .inl e6, e7⟩, r.inj, fun i d a b q hb => let ⟨e1, e2, e3, e4⟩ := r.inn i d a b q hb; ⟨e1.keep kf (s _), e2, .inl e3, e4⟩, r.one⟩
theorem Rep.enterB {D : Addr} {H' : Hp} (r : Rep K B H0 N σ H ρ) (s : Same H H') (h : H D = none) (e : H' D ≠ none) : Rep K (fun a => B a ∨ a = D) H0 (fun a => N a ∨ a = D) σ H' ρ := by
  have r1 := r.enter s h e
  refine ⟨r1.len, r1.base, r1.told, fun a b => b.imp (r.hB a) id, r1.frz, fun i d q => ?_, r1.inj, fun i d a b q hb => let ⟨e1, e2, e3, e4, e5⟩ := r1.inn i d a b q hb; let ⟨f1, _, _, f4, _⟩ := r.inn i d a b q hb; ⟨e1, e2, e3, fun z => z.elim f4 (let ⟨_, f⟩ := f1.some; ne_of_none f h), e5⟩, r1.one⟩
  obtain ⟨a, o, e1, e3, e4, e5, e6, e7⟩ := r.own i d q
  obtain ⟨a', o', f1, f3, f4, f5, f6, f7⟩ := r1.own i d q
  rw [e1] at f1
  cases f1
  exact ⟨a, o', e1, f3, f4, f5, f6, fun z => z.elim e7 (ne_of_none e3 h)⟩
theorem Rep.noown {D : Addr} (r : Rep K B H0 N σ H ρ) (h : H D = none) : ∀ (i : Nat) d, ρ[i]? = some (some (true, d)) → σ[i]? ≠ some (some (.ref D)) := fun i d q z => by
  obtain ⟨a, o, e1, e3, _⟩ := r.own i d q
  rw [e1] at z
  cases z
  rw [h] at e3
  cases e3
end
/-! ### targets -/
def EG (K : PySem.W.Frag) (B : Addr → Prop) (H0 : Hp) (N : Addr → Prop) (H : Hp) (vs : List Nat) (σ : L2.St) (Q : L2.St → Hp → Prop) : Rs Ev → Prop
  | .ok ρ' => ∀ σ', Rep K B H0 N σ' H ρ' → wipe σ' vs = wipe σ vs → Q σ' H
  | _ => False
section
variable {S : Sx} {w : Bool} {vs : List Nat}
def Dx (vs : List Nat) (S : Sx) (tg : Expr) (g : PyData → Ev → Rs Ev) : Prop :=
  ∃ t : TG, (∀ X E, Cs S X E → PG X tg t) ∧ ∀ B H0 N σ H ρ v d Q, Rep S.K B H0 N σ H ρ → Dd S.K N H v d → EG S.K B H0 N H vs σ Q (g d ρ) → t v σ H Q
def Dxs (vs : List Nat) (S : Sx) (tg : List Expr) (g : List PyData → Ev → Rs Ev) : Prop :=
  ∃ t : TGs, (∀ X E, Cs S X E → PGs X tg t) ∧ ∀ B H0 N σ H ρ us ds Q, Rep S.K B H0 N σ H ρ → DdAll S.K N H us ds → EG S.K B H0 N H vs σ Q (g ds ρ) → t us σ H Q
def gN (i : Nat) : PyData → Ev → Rs Ev := fun d ρ => .ok (ρ.set i (some (false, d)))
def gsN : List PyData → Ev → Rs Ev
  | [], ρ => .ok ρ
  | _, _ => .bad
def gsC (g : PyData → Ev → Rs Ev) (gs : List PyData → Ev → Rs Ev) : List PyData → Ev → Rs Ev
  | d :: ds, ρ => (g d ρ).bind (gs ds)
  | [], _ => .bad
def gT (n : Nat) (gs : List PyData → Ev → Rs Ev) : PyData → Ev → Rs Ev
  | .tuple ds, ρ => if ds.length = n then gs ds ρ else .bad
  | _, _ => .bad
theorem dx_name (i : Nat) {x : Str} {pos : Pos} (nd : S.N.Nodup) (hi : S.N[i]? = some x := by rfl) (hx : S.sc.names.lookup x = some .local ∨ (S.sc.names.lookup x = some .cell ∧ S.fc x = true) := by first | exact Or.inl rfl | exact Or.inr ⟨rfl, rfl⟩) (hv : i ∈ vs := by decide) : Dx vs S (.Name x pos) (gN i) := by
  refine ⟨gName i, fun X E c => pg_name (by rw [c.N]; exact nd) (n_of c hi) (by show L2.Loc _ _; unfold L2.Loc; rw [c.sc]; exact hx.imp id And.left) ?_, fun B H0 N σ H ρ v d Q r hd k => k _ (r.set i hd) (wipe_set hv)⟩
  rcases hx with hx | hx
  · exact .inr (by rw [c.sc]; exact hx)
  · exact .inl (c.fn x hx.2)
theorem dxs_nil : Dxs vs S [] gsN := ⟨gNil, fun X E c => pgs_nil, fun B H0 N σ H ρ us ds Q r hd k => by
  cases hd with
  | nil => exact ⟨rfl, k σ r rfl⟩
  | cons a b => exact k.elim⟩
theorem dxs_cons {e : Expr} {es : List Expr} {g : PyData → Ev → Rs Ev} {gs : List PyData → Ev → Rs Ev} (h : Dx vs S e g) (h' : Dxs vs S es gs) (hs : ∀ env, (assignEach (e :: es) env).map (·.2) = assign e env :: (assignEach es env).map (·.2) := by intro _; rfl) : Dxs vs S (e :: es) (gsC g gs) := by
  obtain ⟨t, h1, h2⟩ := h
  obtain ⟨u, h3, h4⟩ := h'
  refine ⟨gCons t u, fun X E c => pgs_cons (h1 X E c) (h3 X E c) (hs _), fun B H0 N σ H ρ us ds Q r hd k => ?_⟩
  cases hd with
  | nil => exact k.elim
  | @cons v vs' d ds a b =>
    refine ⟨v, vs', rfl, h2 B H0 N σ H ρ v d _ r a ?_⟩
    have k : EG S.K B H0 N H vs σ Q ((g d ρ).bind (gs ds)) := k
    cases e1 : g d ρ with
    | bad => rw [e1] at k; exact k
    | err c => rw [e1] at k; exact k
    | ok ρ1 =>
      rw [e1, Rs.bind_ok] at k
      intro σ1 r1 w1
      refine h4 B H0 N σ1 H ρ1 vs' ds _ r1 b ?_
      cases e2 : gs ds ρ1 with
      | bad => rw [e2] at k; exact k
      | err c => rw [e2] at k; exact k
      | ok ρ2 =>
        rw [e2] at k
        exact fun σ2 r2 w2 => k σ2 r2 (w2.trans w1)
theorem dx_tup {es : List Expr} {kk : Nat} {pos : Pos} {n : Nat} {gs : List PyData → Ev → Rs Ev} (h : Dxs vs S es gs) (hn : ∀ env, (assignEach es env).length = n := by intro _; rfl) (hst : ∀ env, (assignEach es env).findIdx? (·.1) = none := by intro _; rfl) : Dx vs S (.Tuple es kk pos) (gT n gs) := by
  obtain ⟨t, h1, h2⟩ := h
  refine ⟨gTup S.K n t, fun X E c => by rw [← c.K]; exact pg_tup c.calm (h1 X E c) (hn _) (hst _), fun B H0 N σ H ρ v d Q r hd k => ?_⟩
  cases d with
  | tuple ds =>
    have k : EG S.K B H0 N H vs σ Q (if ds.length = n then gs ds ρ else .bad) := k
    by_cases hl : ds.length = n
    · rw [if_pos hl] at k
      obtain ⟨a, xs, rfl, e1, kk⟩ := Dw.tup (.dd hd)
      exact ⟨a, xs, rfl, e1, by rw [kk.len]; exact hl, h2 B H0 N σ H ρ xs ds Q r kk k⟩
    · rw [if_neg hl] at k
      exact k.elim
  | _ => exact k.elim
/-! ### comprehensions -/
def lcAll (bd : PyData → Rs (List PyData)) : List PyData → Rs (List PyData)
  | [] => .ok []
  | d :: ds => (bd d).bind fun r => (lcAll bd ds).bind fun r' => .ok (r ++ r')
structure LcSt (K : PySem.W.Frag) (N : Addr → Prop) (D : Addr) (Hs H : Hp) (acc : List V) (accD : List PyData) : Prop where
  s : SameX D Hs H
  d : H D = some (.lst acc)
  a : DdAll K N H acc accD
theorem lc_loop {K : PySem.W.Frag} {N : Addr → Prop} {D : Addr} {J : It} {ds r : List PyData} {Hs : Hp} {acc0 : List V} {acc0D : List PyData} {bodyP : (Hp → Prop) → V → Hp → Prop} {bd : PyData → Rs (List PyData)} {Qd : Hp → Prop}
    (st0 : LcSt K N D Hs Hs acc0 acc0D) (hr : lcAll bd ds = .ok r) (hlen : (acc0D ++ r).length ≤ lim)
    (hj : ∀ H acc accD, LcSt K N D Hs H acc accD → (∀ (i : Nat) d, ds[i]? = some d → J.go i H ∧ ∀ v H', J.yld i H v H' → Same H H' ∧ Dd K N H' v d) ∧ J.stop ds.length H)
    (hb : ∀ d v H acc accD q, LcSt K N D Hs H acc accD → Dd K N H v d → bd d = .ok q → (accD ++ q).length ≤ lim → ∀ Nx : Hp → Prop, (∀ H' acc', LcSt K N D Hs H' acc' (accD ++ q) → Nx H') → bodyP Nx v H)
    (hd : ∀ H acc, LcSt K N D Hs H acc (acc0D ++ r) → Qd H) :
    ∃ W : Nat → Nat → Hp → Prop, (∃ m, W 0 m Hs) ∧ ∀ i m H, W i m H → (J.stop i H ∧ Qd H) ∨ (J.go i H ∧ ∃ Nx : Hp → Prop, (∀ H', Nx H' → ∃ m', m' < m ∧ W (i + 1) m' H') ∧ ∀ x H', J.yld i H x H' → bodyP Nx x H') := by
  refine ⟨fun i m H => i + m = ds.length ∧ ∃ acc accD r', LcSt K N D Hs H acc accD ∧ lcAll bd (ds.drop i) = .ok r' ∧ accD ++ r' = acc0D ++ r, ⟨ds.length, Nat.zero_add _, acc0, acc0D, r, st0, hr, rfl⟩, fun i m H hW => ?_⟩
  obtain ⟨hm, acc, accD, r', st, hr', he⟩ := hW
  obtain ⟨hgo, hstop⟩ := hj H acc accD st
  match m, hm with
  | 0, hm =>
    have hi : i = ds.length := by omega
    subst hi
    rw [List.drop_length] at hr'
    cases hr'
    rw [List.append_nil] at he
    subst he
    exact .inl ⟨hstop, hd H acc st⟩
  | m + 1, hm =>
    have hi : i < ds.length := by omega
    have g : ds[i]? = some ds[i] := List.getElem?_eq_getElem hi
    rw [List.drop_eq_getElem_cons hi] at hr'
    have hr' : ((bd ds[i]).bind fun q => (lcAll bd (ds.drop (i + 1))).bind fun z => .ok (q ++ z)) = .ok r' := hr'
    cases e1 : bd ds[i] with
    | bad => rw [e1] at hr'; cases hr'
    | err c => rw [e1] at hr'; cases hr'
    | ok q =>
      rw [e1, Rs.bind_ok] at hr'
      cases e2 : lcAll bd (ds.drop (i + 1)) with
      | bad => rw [e2] at hr'; cases hr'
      | err c => rw [e2] at hr'; cases hr'
      | ok z =>
        rw [e2, Rs.bind_ok] at hr'
        cases hr'
        obtain ⟨h1, h2⟩ := hgo i _ g
        have hl : (accD ++ q).length ≤ lim := by
          rw [← he] at hlen
          simp only [List.length_append] at hlen ⊢
          omega
        refine .inr ⟨h1, fun H' => ∃ acc', LcSt K N D Hs H' acc' (accD ++ q), fun H' ⟨acc', st'⟩ => ⟨m, Nat.lt_succ_self m, by omega, acc', accD ++ q, z, st', e2, by rw [List.append_assoc]; exact he⟩, fun x H' y => ?_⟩
        obtain ⟨s1, k1⟩ := h2 x H' y
        exact hb _ x H' acc accD q ⟨st.s.trans (.of s1), s1 _ _ st.d, st.a.same s1⟩ k1 e1 hl _ fun H2 acc2 st2 => ⟨acc2, st2⟩
/-- one item's tests and value -/
def bd1 (g : PyData → Ev → Rs Ev) (tt : Ev → Rs Bool) (fe : Ev → Rs PyData) (ρ : Ev) (d : PyData) : Rs (List PyData) := (g d ρ).bind fun ρ1 => (tt ρ1).bind fun b => if b = true then (fe ρ1).bind fun y => .ok [y] else .ok []
theorem bd1_run {B : Addr → Prop} {H0 : Hp} {N : Addr → Prop} {σ : L2.St} {ρ : Ev} {D : Addr} {Hs : Hp} {acc0 : List V} {g : PyData → Ev → Rs Ev} {tt : Ev → Rs Bool} {fe : Ev → Rs PyData} {tg : TG} {t : TT} {te : TE}
    (rp : Rep S.K B H0 N σ Hs ρ) (nD : N D) (h0 : H0 D = none) (bD : B D) (e0 : Hs D = some (.lst acc0))
    (hg : ∀ B H0 N σ H ρ v d Q, Rep S.K B H0 N σ H ρ → Dd S.K N H v d → EG S.K B H0 N H vs σ Q (g d ρ) → tg v σ H Q)
    (ht : ∀ B H0 N σ H ρ Q, Rep S.K B H0 N σ H ρ → ET S H Q E0 (tt ρ) → t σ H Q) (he : ∀ B H0 N σ H ρ Q, Rep S.K B H0 N σ H ρ → EE false S N H Q E0 (fe ρ) → te σ H Q) :
    ∀ d v H acc accD q, LcSt S.K N D Hs H acc accD → Dd S.K N H v d → bd1 g tt fe ρ d = .ok q → (accD ++ q).length ≤ lim → ∀ Nx : Hp → Prop, (∀ H' acc', LcSt S.K N D Hs H' acc' (accD ++ q) → Nx H') →
      tg v σ H fun σ2 H2 => wipe σ2 vs = wipe σ vs ∧ t σ2 H2 fun b H3 => if b = true then te σ2 H3 fun y H4 => ∃ acc, H4 D = some (.lst acc) ∧ acc.length < sizeLine ∧ Nx (upd H4 D (.lst (acc ++ [y]))) else Nx H3 := by
  intro d v H acc accD q st hv hbd hl Nx hN
  have rp1 : Rep S.K B H0 N σ H ρ := rp.moveX st.s nD e0 st.d h0 bD
  refine hg B H0 N σ H ρ v d _ rp1 hv ?_
  unfold bd1 at hbd
  cases e1 : g d ρ with
  | bad => rw [e1] at hbd; cases hbd
  | err c => rw [e1] at hbd; cases hbd
  | ok ρ1 =>
    rw [e1, Rs.bind_ok] at hbd
    intro σ1 r1 w1
    refine ⟨w1, ht B H0 N σ1 H ρ1 _ r1 ?_⟩
    cases e2 : tt ρ1 with
    | bad => rw [e2] at hbd; cases hbd
    | err c => rw [e2] at hbd; cases hbd
    | ok b =>
      rw [e2, Rs.bind_ok] at hbd
      intro H3 s3
      cases b with
      | false =>
        rw [if_neg Bool.false_ne_true] at hbd ⊢
        cases hbd
        exact hN H3 acc ⟨st.s.trans (.of s3), s3 _ _ st.d, by rw [List.append_nil]; exact st.a.same s3⟩
      | true =>
        rw [if_pos rfl] at hbd ⊢
        refine he B H0 N σ1 H3 ρ1 _ (r1.same s3) ?_
        cases e3 : fe ρ1 with
        | bad => rw [e3] at hbd; cases hbd
        | err c => rw [e3] at hbd; cases hbd
        | ok y =>
          rw [e3, Rs.bind_ok] at hbd
          cases hbd
          intro u H4 s4 k4
          have k4 : Dd S.K N H4 u y := k4
          have s34 := s3.trans s4
          have hD4 := s34 _ _ st.d
          have ha : DdAll S.K N H4 acc accD := st.a.same s34
          refine ⟨acc, hD4, ?_, hN _ (acc ++ [u]) ⟨(st.s.trans (.of s34)).upd, upd_same, ?_⟩⟩
          · rw [ha.len]
            simp only [List.length_append, List.length_singleton] at hl
            have : lim < sizeLine := by decide
            omega
          · have kx : KeepF N H4 N (upd H4 D (.lst (acc ++ [u]))) := keep_x (fun c o n e => by rw [upd_ne n]; exact e) nD hD4
            exact (ha.keep kx).app (.one (k4.keep kx))
def relab (scope sc : Scope) : Scope := { scope with names := scope.names.map fun (n, k) => if (k == NameKind.free && sc.kind == .function && sc.names.lookup n == some .cell) then (n, NameKind.cell) else (n, k) }
abbrev Sx.at (S : Sx) (scope : Scope) : Sx := { S with sc := relab scope S.sc, fc := fun x => !(x == ("" : Str)) && (scope.names.lookup x == some .cell) }
theorem cs_blk {X : Cx} {E : XK} (c : Cs S X E) (s : Shared) (H : Hp) (scope : Scope) (cl : List (Str × Addr)) (C : Addr) (fp : List Addr) : Cs (S.at scope) (X.blk s H scope (compEnvC scope cl C X.env) fp) E0 where
  p := c.p
  w := c.w
  K := c.K
  mg := c.mg
  base := c.base
  N := c.N
  sc := by
    show relabel scope X.env = relab scope S.sc
    rw [← c.sc]
    rfl
  calm := c.calm
  room := c.room
  tk := takes0
  po := PassesOwn.never
  fn := fun x h => (Bool.and_eq_true _ _ ▸ h : _ ∧ _).2
  top := fun h => absurd h Bool.false_ne_true
/-- the tests of a comprehension -/
def Dts (S : Sx) (es : List Expr) (f : Ev → Rs Bool) : Prop :=
  ∃ t : XK → TT, (∀ X E, Cs S X E → PTs X es (t E)) ∧ ∀ B H0 N σ H ρ Q E, Rep S.K B H0 N σ H ρ → ET S H Q E (f ρ) → t E σ H Q
def tY : Ev → Rs Bool := fun _ => .ok true
theorem dts_nil : Dts S [] tY := ⟨fun _ => tYes, fun X E c => pts_nil, fun B H0 N σ H ρ Q E r k => k H (Same.refl _)⟩
theorem dts_one {e : Expr} {f : Ev → Rs Bool} (h : Dt S e f) : Dts S [e] f := by
  obtain ⟨t, h1, h2⟩ := h
  exact ⟨t, fun X E c => pts_one (h1 X E c), h2⟩
noncomputable def cap (r : Rs (List PyData)) : Rs (List PyData) := match r with
  | .ok ds => @ite _ (ds.length ≤ lim) (Classical.propDecidable _) (.ok ds) (.bad)
  | _ => .bad
theorem cap_ok {r : Rs (List PyData)} {ds : List PyData} (h : cap r = .ok ds) : r = .ok ds ∧ ds.length ≤ lim := by
  unfold cap at h
  split at h
  · split at h
    · cases h
      exact ⟨rfl, by assumption⟩
    · cases h
  · cases h
noncomputable def lLc (vs : List Nat) (it : Ev → Rs (List PyData)) (g : PyData → Ev → Rs Ev) (tt : Ev → Rs Bool) (fe : Ev → Rs PyData) : Ev → Rs (List PyData) := fun ρ => (it ρ).bind fun ds => cap (lcAll (bd1 g tt fe (wipeE ρ vs)) ds)
theorem lc_run {tg iter elt : Expr} {ifs : List Expr} {scope : Scope} {it : Ev → Rs (List PyData)} {g : PyData → Ev → Rs Ev} {tt : Ev → Rs Bool} {fe : Ev → Rs PyData} (hi : DiW S tg iter it) (hg : Dx vs (S.at scope) tg g) (ht : Dts (S.at scope) ifs tt) (he : De false (S.at scope) elt fe) :
    ∃ (ti : XK → TI) (tgt : TG) (t : TT) (te : TE), (∀ X E, Cs S X E → PI X tg iter (ti E) ∧ (∀ s H C cl fp, PG (X.blk s H scope (compEnvC scope cl C X.env) fp) tg tgt) ∧ (∀ s H C cl fp, PTs (X.blk s H scope (compEnvC scope cl C X.env) fp) ifs t) ∧ ∀ s H C cl fp, PE (X.blk s H scope (compEnvC scope cl C X.env) fp) elt te) ∧
      ∀ B H0 N σ H ρ Q E, Rep S.K B H0 N σ H ρ → EF S N H Q E (lLc vs it g tt fe ρ) → tLc (ti E) tgt t te vs σ H Q := by
  obtain ⟨ti, h1, h2⟩ := hi
  obtain ⟨tgt, h3, h4⟩ := hg
  obtain ⟨t, h5, h6⟩ := ht
  obtain ⟨te, h7, h8⟩ := he
  refine ⟨ti, tgt, t E0, te E0, fun X E c => ⟨h1 X E c, fun s H C cl fp => h3 _ _ (cs_blk c s H scope cl C fp), fun s H C cl fp => h5 _ _ (cs_blk c s H scope cl C fp), fun s H C cl fp => h7 _ _ (cs_blk c s H scope cl C fp)⟩, fun B H0 N σ H ρ Q E rp k => ?_⟩
  refine h2 B H0 N σ H ρ _ E rp ?_
  unfold lLc at k
  cases e1 : it ρ with
  | bad => rw [e1] at k; exact k
  | err c => rw [e1] at k; exact k
  | ok ds =>
    rw [e1, Rs.bind_ok] at k
    intro J H1 s1 hj D hD
    have rp1 := rp.same s1
    cases e2 : cap (lcAll (bd1 g tt fe (wipeE ρ vs)) ds) with
    | bad => rw [e2] at k; exact k.elim
    | err c =>
      unfold cap at e2
      split at e2
      · split at e2 <;> cases e2
      · cases e2
    | ok r =>
      rw [e2] at k
      obtain ⟨hr, hl⟩ := cap_ok e2
      have rpD : Rep S.K (fun a => B a ∨ a = D) H0 (fun a => N a ∨ a = D) σ (upd H1 D (.lst [])) ρ := rp1.enterB (same_upd hD) hD (by rw [upd_same]; exact fun z => by cases z)
      have h0 : H0 D = none := rp1.base.free hD
      have kn : KeepF N H1 (fun a => N a ∨ a = D) (upd H1 D (.lst [])) := keep_new hD
      refine lc_loop (K := S.K) (N := fun a => N a ∨ a = D) (acc0 := []) (acc0D := []) (bd := bd1 g tt fe (wipeE ρ vs)) (bodyP := fun Nx x H' => tgt x (wipe σ vs) H' fun σ2 H2 => wipe σ2 vs = wipe σ vs ∧ t E0 σ2 H2 fun b H3 => if b = true then te E0 σ2 H3 fun y H4 => ∃ acc, H4 D = some (.lst acc) ∧ acc.length < sizeLine ∧ Nx (upd H4 D (.lst (acc ++ [y]))) else Nx H3)
        ⟨fun _ _ _ e => e, upd_same, .nil⟩ hr hl (fun H' acc accD st => ?_) ?_ (fun H' acc st => ?_)
      · have kx : KeepF (fun a => N a ∨ a = D) (upd H1 D (.lst [])) (fun a => N a ∨ a = D) H' := keep_x st.s (.inr rfl) upd_same
        have sm : Same H1 H' := fun a o e => st.s a o (ne_of_none e hD) (same_upd hD a o e)
        exact ⟨fun i d e => hj.go _ H' i d sm (kn.trans kx) e, hj.stop _ H' sm (kn.trans kx)⟩
      · have := bd1_run (S := S) (vs := vs) (g := g) (tt := tt) (fe := fe) (tg := tgt) (t := t E0) (te := te E0) (rpD.wipe vs) (.inr rfl) h0 (.inr rfl) upd_same (fun B H0 N σ H ρ v d Q => h4 B H0 N σ H ρ v d Q) (fun B H0 N σ H ρ Q => h6 B H0 N σ H ρ Q E0) (fun B H0 N σ H ρ Q => h8 B H0 N σ H ρ Q E0)
        have ww : wipe (wipe σ vs) vs = wipe σ vs := by
          refine List.ext_getElem? fun j => ?_
          rw [wipe_get, wipe_get, wipe_length]
          by_cases hj : j ∈ vs
          · rw [if_pos hj, if_pos hj]
          · rw [if_neg hj, if_neg hj]
        rw [ww] at this
        exact this
      · rw [List.nil_append] at st
        exact k D acc H' (s1.trans fun a o e => st.s a o (ne_of_none e hD) (same_upd hD a o e)) (s1.free hD) st.d st.a
theorem df_lc {elt tg iter : Expr} {ifs : List Expr} {scope : Scope} {own : List (Str × Nat)} {pos : Pos} {it : Ev → Rs (List PyData)} {g : PyData → Ev → Rs Ev} {tt : Ev → Rs Bool} {fe : Ev → Rs PyData} (nd : S.N.Nodup) (ok : BlkOk S.N S.sc scope own) (hi : DiW S tg iter it) (hg : Dx (own.map (·.2)) (S.at scope) tg g) (ht : Dts (S.at scope) ifs tt) (he : De false (S.at scope) elt fe) (hs : ∀ env x, foldedSetIterable iter env x = pure x := by intro _ _; rfl) : Df S (.ListComp elt [⟨tg, iter, ifs, 0⟩] scope pos) (lLc (own.map (·.2)) it g tt fe) := by
  obtain ⟨ti, tgt, t, te, h1, h2⟩ := lc_run hi hg ht he
  exact ⟨fun E => tLc (ti E) tgt t te (own.map (·.2)), fun X E c => let ⟨q1, q2, q3, q4⟩ := h1 X E c; pe_lc c.calm (by rw [c.N]; exact nd) q1 (by rw [c.N, c.sc]; exact ok) q2 q3 q4 (hs _), h2⟩
end
section
variable {S : Sx} {w : Bool}
/-! ### expressions within statements -/
/-- what an expression's result is handed to -/
theorem ES.err {B : Addr → Prop} {H0 : Hp} {N : Addr → Prop} {H : Hp} {D : Ends} {E : XK} {c : Str} (b : Same H0 H) (k : ES S B H0 N H D E (.err c)) : ∀ H', Same H H' → E (.ref (S.cls c)) none H' := fun H' s => k H' (b.trans s)
/-- the heap grew: what is wanted behind -/
theorem ES.from {B : Addr → Prop} {H0 : Hp} {N N' : Addr → Prop} {H H' : Hp} {D : Ends} {E : XK} {r : Rs Out} (kf : KeepF N H N' H') (k : ES S B H0 N H D E r) : ES S B H0 N' H' D E r := by
  cases r with
  | bad => exact k
  | err c => exact k
  | ok o =>
    cases o with
    | ret d => exact k
    | retp d p => exact k
    | nx ρ2 => exact fun N2 σ2 H2 r2 k2 => k N2 σ2 H2 r2 (kf.trans k2)
    | brk ρ2 => exact fun N2 σ2 H2 r2 k2 => k N2 σ2 H2 r2 (kf.trans k2)
    | cnt ρ2 => exact fun N2 σ2 H2 r2 k2 => k N2 σ2 H2 r2 (kf.trans k2)
/-! ### return -/
def sRet (f : Ev → Rs PyData) : Ev → Rs Out := fun ρ => (f ρ).bind fun d => .ok (.ret d)
theorem ds_ret {e : Expr} {pos : Pos} {f : Ev → Rs PyData} (h : De false S e f) : Ds S (.Return (some e) pos) (sRet f) := by
  obtain ⟨t, h1, h2⟩ := h
  refine ⟨fun E => tRet (t E), fun X E c => ps_ret (h1 X E c), fun B H0 N σ H ρ D E r k => h2 B H0 N σ H ρ _ E r ?_⟩
  unfold sRet at k
  cases e1 : f ρ with
  | bad => rw [e1] at k; exact k
  | err c => rw [e1] at k; exact ES.err r.base k
  | ok d =>
    rw [e1] at k
    exact fun v H' s kk => k v H' (r.base.trans s) (Dd.keep (.weak r.hB) kk)
/-! ### x = e -/
def sSet (i : Nat) (f : Ev → Rs PyData) : Ev → Rs Out := fun ρ => (f ρ).bind fun d => .ok (.nx (ρ.set i (some (false, d))))
theorem set_end {i : Nat} {f : Ev → Rs PyData} {t : TE} {E : XK} {B : Addr → Prop} {H0 : Hp} {N : Addr → Prop} {σ : L2.St} {H : Hp} {ρ : Ev} {D : Ends} (r : Rep S.K B H0 N σ H ρ) (h2 : ∀ Q, EE false S N H Q E (f ρ) → t σ H Q) (k : ES S B H0 N H D E (sSet i f ρ)) : tAsg t (gName i) D σ H := by
  refine h2 _ ?_
  unfold sSet at k
  cases e1 : f ρ with
  | bad => rw [e1] at k; exact k
  | err c => rw [e1] at k; exact ES.err r.base k
  | ok d =>
    rw [e1] at k
    exact fun v H' s kk => k N _ H' ((r.same s).set i kk) (.same s)
abbrev LocS (S : Sx) (x : Str) : Prop := S.sc.names.lookup x = some .local ∨ (S.sc.names.lookup x = some .cell ∧ S.fc x = true)
theorem loc_of {X : Cx} {E : XK} (c : Cs S X E) {x : Str} (hx : LocS S x) : L2.Loc X.env.scope x ∧ (X.fn x = true ∨ X.env.scope.names.lookup x = some .local) := by
  refine ⟨by unfold L2.Loc; rw [c.sc]; exact hx.imp id And.left, ?_⟩
  rcases hx with hx | hx
  · exact .inr (by rw [c.sc]; exact hx)
  · exact .inl (c.fn x hx.2)
theorem ds_set (i : Nat) {x : Str} {e : Expr} {pos pos' : Pos} {f : Ev → Rs PyData} (nd : S.N.Nodup) (h : De false S e f) (hi : S.N[i]? = some x := by rfl) (hx : LocS S x := by first | exact Or.inl rfl | exact Or.inr ⟨rfl, rfl⟩) (hs : ∀ env : Env, env.scope = S.sc → swapsWith e (some (.Name x pos')) pos.line env = pure false := by intro _ _; rfl) : Ds S (.Assign [.Name x pos'] e pos) (sSet i f) := by
  obtain ⟨t, h1, h2⟩ := h
  exact ⟨fun E => tAsg (t E) (gName i), fun X E c => ps_set (by rw [c.N]; exact nd) (n_of c hi) (loc_of c hx).1 (h1 X E c) (hs _ c.sc) (loc_of c hx).2, fun B H0 N σ H ρ D E r k => set_end r (fun Q q => h2 B H0 N σ H ρ Q E r q) k⟩
/-- a list of one's own, to be changed -/
def sSetO (i : Nat) (f : Ev → Rs (List PyData)) : Ev → Rs Out := fun ρ => (f ρ).bind fun ds => .ok (.nx (ρ.set i (some (true, .list ds))))
theorem Rep.setOw {K : PySem.W.Frag} {B : Addr → Prop} {H0 : Hp} {N : Addr → Prop} {σ : L2.St} {H H' : Hp} {ρ : Ev} (r : Rep K B H0 N σ H ρ) (i : Nat) {p : Addr} {o : HO} {dd : PyData} (s : Same H H') (hp : H p = none) (hl : H' p = some o) (hd : OwnD K (fun a => N a ∨ a = p) H' p o dd) (hs : adrOf dd = none := by rfl) : Rep K B H0 (fun a => N a ∨ a = p) (σ.set i (some (.ref p))) H' (ρ.set i (some (true, dd))) := by
  have r1 := r.enter s hp (by rw [hl]; exact fun z => by cases z)
  have no := r.noown hp
  refine ⟨by rw [List.length_set, List.length_set]; exact r.len, r1.base, r1.told, r1.hB, fun j d h => ?_, fun j d h => ?_, fun j k d e a q1 q2 q3 q4 => ?_, fun j d' a b q hb => ?_, r.one.set (fun z => by cases z; exact hs)⟩
  rotate_left 3
  · rcases set_cases q with ⟨_, z, _⟩ | ⟨n, q⟩
    · injection z with z
      injection z with _ z
      rw [z, hs] at hb
      cases hb
    · obtain ⟨e1, e2, e3, e4, e5⟩ := r1.inn j d' a b q hb
      obtain ⟨f1, _⟩ := r.inn j d' a b q hb
      refine ⟨e1, e2, e3, e4, fun k e c q1 q2 => ?_⟩
      rcases set_cases q1 with ⟨k1, z1, l1⟩ | ⟨n2, q1⟩
      · rw [k1, List.getElem?_set_self (by rw [r.len]; exact l1)] at q2
        cases q2
        exact fun z => (let ⟨_, f⟩ := f1.some; ne_of_none f hp) z.symm
      · rw [List.getElem?_set_ne (Ne.symm n2)] at q2
        exact e5 k e c q1 q2
  · rcases set_cases h with ⟨_, z, _⟩ | ⟨n, h⟩
    · cases z
    · obtain ⟨v, e, k⟩ := r1.frz j d h
      exact ⟨v, by rw [List.getElem?_set_ne (Ne.symm n)]; exact e, k⟩
  · rcases set_cases h with ⟨rfl, z, hlt⟩ | ⟨n, h⟩
    · cases z
      exact ⟨p, o, List.getElem?_set_self (by rw [r.len]; exact hlt), hl, hd, r.base.free hp, .inr rfl, fun b => r.told p (r.hB p b) hp⟩
    · obtain ⟨a, o, e, k⟩ := r1.own j d h
      exact ⟨a, o, by rw [List.getElem?_set_ne (Ne.symm n)]; exact e, k⟩
  · rcases set_cases q1 with ⟨j1, z1, l1⟩ | ⟨n1, p1⟩
    · rcases set_cases q2 with ⟨k1, _, _⟩ | ⟨n2, p2⟩
      · rw [j1, k1]
      · rw [j1, List.getElem?_set_self (by rw [r.len]; exact l1)] at q3
        rw [List.getElem?_set_ne (Ne.symm n2)] at q4
        cases q3
        exact absurd q4 (no k e p2)
    · rcases set_cases q2 with ⟨k1, z2, l2⟩ | ⟨n2, p2⟩
      · rw [k1, List.getElem?_set_self (by rw [r.len]; exact l2)] at q4
        rw [List.getElem?_set_ne (Ne.symm n1)] at q3
        cases q4
        exact absurd q3 (no j d p1)
      · rw [List.getElem?_set_ne (Ne.symm n1)] at q3
        rw [List.getElem?_set_ne (Ne.symm n2)] at q4
        exact r.inj j k d e a p1 p2 q3 q4
theorem Rep.setO {K : PySem.W.Frag} {B : Addr → Prop} {H0 : Hp} {N : Addr → Prop} {σ : L2.St} {H H' : Hp} {ρ : Ev} (r : Rep K B H0 N σ H ρ) (i : Nat) {p : Addr} {xs : List V} {ds : List PyData} (s : Same H H') (hp : H p = none) (hl : H' p = some (.lst xs)) (hd : DdAll K (fun a => N a ∨ a = p) H' xs ds) : Rep K B H0 (fun a => N a ∨ a = p) (σ.set i (some (.ref p))) H' (ρ.set i (some (true, .list ds))) := r.setOw i s hp hl (.lst hd)
theorem setO_end {i : Nat} {f : Ev → Rs (List PyData)} {t : TE} {E : XK} {B : Addr → Prop} {H0 : Hp} {N : Addr → Prop} {σ : L2.St} {H : Hp} {ρ : Ev} {D : Ends} (r : Rep S.K B H0 N σ H ρ) (h2 : ∀ Q, EF S N H Q E (f ρ) → t σ H Q) (k : ES S B H0 N H D E (sSetO i f ρ)) : tAsg t (gName i) D σ H := by
  refine h2 _ ?_
  unfold sSetO at k
  cases e1 : f ρ with
  | bad => rw [e1] at k; exact k
  | err c => rw [e1] at k; exact ES.err r.base k
  | ok d =>
    rw [e1] at k
    exact fun p xs H' s hp hl hd => k _ _ H' (r.setO i s hp hl hd) ⟨fun a o q n => ⟨s a o q, fun z => z.elim n (ne_of_none q hp)⟩, fun a xs q => same_rd s q⟩
theorem ds_setO (i : Nat) {x : Str} {e : Expr} {pos pos' : Pos} {f : Ev → Rs (List PyData)} (nd : S.N.Nodup) (h : Df S e f) (hi : S.N[i]? = some x := by rfl) (hx : LocS S x := by first | exact Or.inl rfl | exact Or.inr ⟨rfl, rfl⟩) (hs : ∀ env : Env, env.scope = S.sc → swapsWith e (some (.Name x pos')) pos.line env = pure false := by intro _ _; rfl) : Ds S (.Assign [.Name x pos'] e pos) (sSetO i f) := by
  obtain ⟨t, h1, h2⟩ := h
  exact ⟨fun E => tAsg (t E) (gName i), fun X E c => ps_set (by rw [c.N]; exact nd) (n_of c hi) (loc_of c hx).1 (h1 X E c) (hs _ c.sc) (loc_of c hx).2, fun B H0 N σ H ρ D E r k => setO_end r (fun Q q => h2 B H0 N σ H ρ Q E r q) k⟩
/-- x = [..] on one line, x a local -/
theorem setLc_ps {i : Nat} {y : Str} {py : Pos} {elt tg iter : Expr} {ifs : List Expr} {scope : Scope} {own : List (Str × Nat)} {pos spos : Pos} {ti : TI} {tgt : TG} {t : TT} {te : TE} {X : Cx} {E : XK} (c : Cs S X E) (nd : S.N.Nodup) (ok : BlkOk S.N S.sc scope own) (hi : S.N[i]? = some y) (hx : S.sc.names.lookup y = some .local) (hk : S.sc.kind = .function) (hl : (py.line == pos.line) = true) (ha : (scope.names.any fun (n, k) => n == y && (k == .local || k == .cell)) = false)
    (q : PI X tg iter ti ∧ (∀ s H C cl fp, PG (X.blk s H scope (compEnvC scope cl C X.env) fp) tg tgt) ∧ (∀ s H C cl fp, PTs (X.blk s H scope (compEnvC scope cl C X.env) fp) ifs t) ∧ ∀ s H C cl fp, PE (X.blk s H scope (compEnvC scope cl C X.env) fp) elt te) (hs : ∀ env x, foldedSetIterable iter env x = pure x) :
    PS X (.Assign [.Name y py] (.ListComp elt [⟨tg, iter, ifs, 0⟩] scope pos) spos) (tAsg (tLc ti tgt t te (own.map (·.2))) (gName i)) :=
  ps_setLc c.calm (by rw [c.N]; exact nd) (n_of c hi) (by rw [c.sc]; exact hx) (sw_true (by rw [c.sc]; exact hk) (by rw [c.sc]; exact hx) hl ha) q.1 (by rw [c.N, c.sc]; exact ok) q.2.1 q.2.2.1 q.2.2.2 (hs _)
theorem ds_setLc (i : Nat) {y : Str} {py : Pos} {elt tg iter : Expr} {ifs : List Expr} {scope : Scope} {own : List (Str × Nat)} {pos spos : Pos} {it : Ev → Rs (List PyData)} {g : PyData → Ev → Rs Ev} {tt : Ev → Rs Bool} {fe : Ev → Rs PyData} (nd : S.N.Nodup) (ok : BlkOk S.N S.sc scope own) (hi : DiW S tg iter it) (hg : Dx (own.map (·.2)) (S.at scope) tg g) (ht : Dts (S.at scope) ifs tt) (he : De false (S.at scope) elt fe)
    (ha : (scope.names.any fun (n, k) => n == y && (k == .local || k == .cell)) = false) (hN : S.N[i]? = some y := by rfl) (hx : S.sc.names.lookup y = some .local := by rfl) (hk : S.sc.kind = .function := by rfl) (hl : (py.line == pos.line) = true := by rfl) (hs : ∀ env x, foldedSetIterable iter env x = pure x := by intro _ _; rfl) : Ds S (.Assign [.Name y py] (.ListComp elt [⟨tg, iter, ifs, 0⟩] scope pos) spos) (sSet i (eL (lLc (own.map (·.2)) it g tt fe))) := by
  obtain ⟨ti, tgt, t, te, h1, h2⟩ := lc_run hi hg ht he
  refine ⟨fun E => tAsg (tLc (ti E) tgt t te (own.map (·.2))) (gName i), fun X E c => setLc_ps c nd ok hN hx hk hl ha (h1 X E c) hs, fun B H0 N σ H ρ D E r k => set_end r (fun Q q => h2 B H0 N σ H ρ Q E r ?_) k⟩
  unfold eL at q
  cases e1 : lLc (own.map (·.2)) it g tt fe ρ with
  | bad => rw [e1] at q; exact q
  | err c => rw [e1] at q; exact q
  | ok ds =>
    rw [e1] at q
    exact fun p xs H' s hp hl hd => q _ H' s (.lst hl (new_of r.told hp) (hd.keep (.weak fun _ z => .inl z)))
/-- a, b = e -/
def okE (r : Rs Ev) (f : Ev → Rs Out) : Rs Out := match r with
  | .ok ρ => f ρ
  | _ => .bad
def sAsg (f : Ev → Rs PyData) (g : PyData → Ev → Rs Ev) : Ev → Rs Out := fun ρ => (f ρ).bind fun d => okE (g d ρ) fun ρ' => .ok (.nx ρ')
theorem ds_asg {vs : List Nat} {tg e : Expr} {pos : Pos} {f : Ev → Rs PyData} {g : PyData → Ev → Rs Ev} (h : De false S e f) (hg : Dx vs S tg g) (hs : ∀ env, swapsWithSole [tg] e pos.line env = pure false := by intro _; rfl) (hw : ∀ env, swappedStores [tg] e env = pure none := by intro _; rfl) (h1 : ∀ env, (assignEach [tg] env).map (·.2) = [assign tg env] := by intro _; rfl) : Ds S (.Assign [tg] e pos) (sAsg f g) := by
  obtain ⟨t, h1', h2⟩ := h
  obtain ⟨u, h3, h4⟩ := hg
  refine ⟨fun E => tAsg (t E) u, fun X E c => ps_asg (h1' X E c) (h3 X E c) (hs _) (hw _) (h1 _), fun B H0 N σ H ρ D E r k => h2 B H0 N σ H ρ _ E r ?_⟩
  unfold sAsg at k
  cases e1 : f ρ with
  | bad => rw [e1] at k; exact k
  | err c => rw [e1] at k; exact ES.err r.base k
  | ok d =>
    rw [e1, Rs.bind_ok] at k
    intro v H' s kk
    refine h4 B H0 N σ H' ρ v d _ (r.same s) kk ?_
    cases e2 : g d ρ with
    | bad => rw [e2] at k; exact k
    | err c => rw [e2] at k; exact k
    | ok ρ' =>
      rw [e2] at k
      exact fun σ' r' _ => k N σ' H' r' (.same s)
/-! ### a list that stops being changed -/
def sFrz (i : Nat) (g : Ev → Rs Out) : Ev → Rs Out := fun ρ => match ρ[i]? with
  | some (some (true, .list ds)) => g (ρ.set i (some (false, .list ds)))
  | some (some (false, _)) => g ρ
  | _ => .bad
theorem Rep.freeze {K : PySem.W.Frag} {B : Addr → Prop} {H0 : Hp} {N : Addr → Prop} {σ : L2.St} {H : Hp} {ρ : Ev} (r : Rep K B H0 N σ H ρ) {i : Nat} {ds : List PyData} (h : ρ[i]? = some (some (true, .list ds))) : ∃ N', Rep K B H0 N' σ H (ρ.set i (some (false, .list ds))) ∧ KeepF N H N' H := by
  obtain ⟨a, o, e1, e3, e4, e5, e6, e7⟩ := r.own i _ h
  cases e4 with | lst e4 =>
  have hlt : i < ρ.length := (List.getElem?_eq_some_iff.mp h).1
  have wk : KeepF N H (fun b => N b ∧ b ≠ a) H := .weak fun b z => z.1
  refine ⟨fun b => N b ∧ b ≠ a, ⟨by rw [List.length_set]; exact r.len, r.base, fun b n => r.told b n.1, fun b hb => ⟨r.hB b hb, fun z => e7 (by rw [← z]; exact hb)⟩, fun j d' q => ?_, fun j d' q => ?_, fun j k d e b q1 q2 q3 q4 => ?_, fun j d' a' b q hb => ?_, r.one.set (fun z => by cases z)⟩, wk⟩
  rotate_left 3
  · rcases set_cases q with ⟨_, z, _⟩ | ⟨n, q⟩
    · cases z
    · obtain ⟨f1, f2, f3, f4, f5⟩ := r.inn j d' a' b q hb
      refine ⟨f1.keep wk (fun _ z => z), f2, ⟨f3, fun z => f5 i _ a h e1 z.symm⟩, f4, fun k e c q1 q2 => ?_⟩
      rcases set_cases q1 with ⟨_, z, _⟩ | ⟨n2, q1⟩
      · cases z
      · exact f5 k e c q1 q2
  · rcases set_cases q with ⟨rfl, z, _⟩ | ⟨n, q⟩
    · cases z
      exact ⟨.ref a, e1, .lst e3 (fun z => z.2 rfl) (e4.keep wk)⟩
    · obtain ⟨v, e, k⟩ := r.frz j d' q
      exact ⟨v, e, k.keep wk⟩
  · rcases set_cases q with ⟨_, z, _⟩ | ⟨n, q⟩
    · cases z
    · obtain ⟨b, o, f1, f3, f4, f5, f6, f7⟩ := r.own j d' q
      exact ⟨b, o, f1, f3, f4.keep wk, f5, ⟨f6, fun z => n (r.inj j i d' _ a q h (by rw [← z]; exact f1) e1)⟩, f7⟩
  · rcases set_cases q1 with ⟨_, z, _⟩ | ⟨n1, p1⟩
    · cases z
    · rcases set_cases q2 with ⟨_, z, _⟩ | ⟨n2, p2⟩
      · cases z
      · exact r.inj j k d e b p1 p2 q3 q4
theorem ds_frz (i : Nat) {s : Stmt} {g : Ev → Rs Out} (h : Ds S s g) : Ds S s (sFrz i g) := by
  obtain ⟨t, h1, h2⟩ := h
  refine ⟨t, h1, fun B H0 N σ H ρ D E r k => ?_⟩
  unfold sFrz at k
  split at k
  · rename_i ds q
    obtain ⟨N', r', kf⟩ := r.freeze q
    exact h2 B H0 N' σ H _ D E r' (k.from kf)
  · exact h2 B H0 N σ H ρ D E r k
  · exact k.elim
/-! ### lists changed -/
theorem Rep.mutO {K : PySem.W.Frag} {B : Addr → Prop} {H0 : Hp} {N : Addr → Prop} {σ : L2.St} {H : Hp} {ρ : Ev} (r : Rep K B H0 N σ H ρ) {i : Nat} {a : Addr} {d : PyData} {o' : HO} {dd : PyData} (h : ρ[i]? = some (some (true, d))) (e : σ[i]? = some (some (.ref a))) (hd : OwnD K N H a o' dd) (hs : adrOf dd = none := by rfl) : Rep K B H0 N σ (upd H a o') (ρ.set i (some (true, dd))) ∧ KeepF N H N (upd H a o') := by
  obtain ⟨a', o, e1, e3, e4, e5, e6, e7⟩ := r.own i d h
  rw [e] at e1
  cases e1
  have hlt : i < ρ.length := (List.getElem?_eq_some_iff.mp h).1
  have sx : SameX a H (upd H a o') := fun c o n q => by rw [upd_ne n]; exact q
  have kx : KeepF N H N (upd H a o') := keep_o sx e6 e3 e4
  refine ⟨⟨by rw [List.length_set]; exact r.len, fun c o q => sx c o (ne_of_none q e5) (r.base c o q), r.told.upd, r.hB, fun j d' q => ?_, fun j d' q => ?_, fun j k d e b q1 q2 q3 q4 => ?_, fun j d' a' b q hb => ?_, r.one.set (fun z => by cases z; exact hs)⟩, kx⟩
  rotate_left 3
  · rcases set_cases q with ⟨_, z, _⟩ | ⟨n, q⟩
    · injection z with z
      injection z with _ z
      rw [z, hs] at hb
      cases hb
    · obtain ⟨f1, f2, f3, f4, f5⟩ := r.inn j d' a' b q hb
      refine ⟨f1.keep kx (fun o q => by rw [upd_ne (fun z => f5 i _ a h e z.symm)]; exact q), f2, f3, f4, fun k e' c q1 q2 => ?_⟩
      rcases set_cases q1 with ⟨k1, _, _⟩ | ⟨n2, q1⟩
      · exact f5 k _ c (by rw [k1]; exact h) q2
      · exact f5 k e' c q1 q2
  · rcases set_cases q with ⟨_, z, _⟩ | ⟨n, q⟩
    · cases z
    · obtain ⟨v, e, k⟩ := r.frz j d' q
      exact ⟨v, e, k.keep kx⟩
  · rcases set_cases q with ⟨rfl, z, _⟩ | ⟨n, q⟩
    · cases z
      exact ⟨a, o', e, upd_same, hd.keep kx, e5, e6, e7⟩
    · obtain ⟨b, o, f1, f3, f4, f5, f6, f7⟩ := r.own j d' q
      have nb : b ≠ a := fun z => n (r.inj j i d' _ a q h (by rw [← z]; exact f1) e)
      exact ⟨b, o, f1, by rw [upd_ne nb]; exact f3, f4.keep kx, f5, f6, f7⟩
  · rcases set_cases q1 with ⟨j1, _, _⟩ | ⟨n1, p1⟩
    · rcases set_cases q2 with ⟨k1, _, _⟩ | ⟨n2, p2⟩
      · rw [j1, k1]
      · exact r.inj j k _ _ b (by rw [j1]; exact h) p2 q3 q4
    · rcases set_cases q2 with ⟨k1, _, _⟩ | ⟨n2, p2⟩
      · exact r.inj j k _ _ b p1 (by rw [k1]; exact h) q3 q4
      · exact r.inj j k _ _ b p1 p2 q3 q4
theorem Rep.mut {K : PySem.W.Frag} {B : Addr → Prop} {H0 : Hp} {N : Addr → Prop} {σ : L2.St} {H : Hp} {ρ : Ev} (r : Rep K B H0 N σ H ρ) {i : Nat} {a : Addr} {d : PyData} {ys : List V} {ds : List PyData} (h : ρ[i]? = some (some (true, d))) (e : σ[i]? = some (some (.ref a))) (hd : DdAll K N H ys ds) : Rep K B H0 N σ (upd H a (.lst ys)) (ρ.set i (some (true, .list ds))) ∧ KeepF N H N (upd H a (.lst ys)) := r.mutO h e (.lst hd)
/-- x.m(e ..), x a list of one's own -/
def sMut (i : Nat) (m : List PyData → List PyData → Rs (List PyData)) (fs : Ev → Rs (List PyData)) : Ev → Rs Out := fun ρ => match ρ[i]? with
  | some (some (true, .list ds)) => (fs ρ).bind fun as => (m ds as).bind fun ds' => .ok (.nx (ρ.set i (some (true, .list ds'))))
  | _ => .bad
/-- the rule r of the method does m -/
def MutD (S : Sx) (ww : Bool) (r : V → List V → Hp → VK → Prop) (m : List PyData → List PyData → Rs (List PyData)) : Prop := ∀ N H a xs ds vs as Q, H a = some (.lst xs) → DdAll S.K N H xs ds → Paired (DW ww S.K N H) vs as → ∀ ds', m ds as = .ok ds' → (∀ v ys, DdAll S.K N H ys ds' → Q v (upd H a (.lst ys))) → r (.ref a) vs H Q
def noErrM (m : List PyData → List PyData → Rs (List PyData)) : Prop := ∀ ds as c, m ds as ≠ .err c
theorem mut_run {i : Nat} {m : List PyData → List PyData → Rs (List PyData)} {fs : Ev → Rs (List PyData)} {r : V → List V → Hp → VK → Prop} {t : TA} {E : XK} {B : Addr → Prop} {H0 : Hp} {N : Addr → Prop} {σ : L2.St} {H : Hp} {ρ : Ev} {D : Ends} {ww : Bool} (hm : MutD S ww r m) (hn : noErrM m) (rp : Rep S.K B H0 N σ H ρ) (h2 : ∀ H Q, Rep S.K B H0 N σ H ρ → EA ww S N H Q E (fs ρ) → t σ H Q) (k : ES S B H0 N H D E (sMut i m fs ρ)) :
    tDrop (tBM S.K "list" r (tVar i) t) D σ H := by
  unfold sMut at k
  split at k
  · rename_i ds q
    obtain ⟨a, o, e1, e3, e4, _⟩ := rp.own i _ q
    cases e4 with | lst e4 =>
    rename_i xs
    refine ⟨.ref a, e1, .inl ⟨rfl, xs, SqL.of e3⟩, h2 H _ rp ?_⟩
    cases q1 : fs ρ with
    | bad => rw [q1] at k; exact k
    | err c => rw [q1] at k; exact ES.err rp.base k
    | ok as =>
      rw [q1, Rs.bind_ok] at k
      intro vs H1 s1 k1
      cases q2 : m ds as with
      | bad => rw [q2] at k; exact k.elim
      | err c => exact absurd q2 (hn ds as c)
      | ok ds' =>
        rw [q2, Rs.bind_ok] at k
        have r1 := rp.same s1
        refine hm N H1 a xs ds vs as _ (s1 _ _ e3) (e4.same s1) k1 ds' q2 fun v ys hy => ?_
        obtain ⟨r2, kf⟩ := r1.mut q e1 hy
        exact k N σ _ r2 ((KeepF.same s1).trans kf)
  · exact k.elim
end
section
variable {S : Sx} {w : Bool}
theorem ds_mut {i : Nat} {x : Str} {e : Expr} {es : List Expr} {name : Str} {id : String} {xp apos cpos pos : Pos} {ww : Bool} {m : List PyData → List PyData → Rs (List PyData)} {fs : Ev → Rs (List PyData)} {r : V → List V → Hp → VK → Prop} (slot : Slot "list" name id) (hty : typeOf (.builtin id) = pure (.type "method_descriptor")) (hr : ∀ X E, Cs S X E → MtR X id r) (hm : MutD S ww r m) (hn : noErrM m)
    (ha : Da ww S (e :: es) fs) (hi : S.N[i]? = some x) (hv : Vis S.sc x) (hd : (x == ("__debug__" : Str)) = false) (hcd : (x == ("__classdict__" : Str)) = false)
    (hfew : ∀ env, ((backTo cpos (starEach (e :: es) env)).all (fun x => !x.1) && (backToKw cpos (keywordEach [] env)).all (fun x => x.1.isSome) && decide ((e :: es).length + ([] : List Keyword).length + (if ([] : List Keyword).isEmpty then 0 else 1) < 30)) = true) (hline : (apos.endLine == cpos.line) = true) (hs : ∀ env, starEach (e :: es) env = (false, eval e env) :: starEach es env) (hpl : ∀ env, (backTo cpos (starEach es env)).any (·.1) = false) :
    Ds S (.Expr (.Call (.Attribute (.Name x xp) name apos) (e :: es) [] cpos) pos) (sMut i m fs) := by
  obtain ⟨t, h1, h2, _⟩ := ha
  exact ⟨fun E => tDrop (tBM S.K "list" r (tVar i) (t E)), fun X E c => by
    rw [← c.K]
    exact ps_expr (pe_bm PySem.F.plainAttrs_list slot hty (hr X E c) (pe_var (n_of c hi) (vis_of c hv) hd hcd) (h1 X E c) rfl (hfew _) hline (hs _) (hpl _)) rfl, fun B H0 N σ H ρ D E r k => mut_run hm hn r (fun H' Q r' q => h2 B H0 N σ H' ρ Q E r' q) k⟩
noncomputable def appM (ds as : List PyData) : Rs (List PyData) := match as with
  | [y] => @ite _ (ds.length < lim) (Classical.propDecidable _) (.ok (ds ++ [y])) (.bad)
  | _ => .bad
theorem noErr_app : noErrM appM := fun ds as c h => by
  unfold appM at h
  split at h
  · split at h <;> cases h
  · cases h
theorem mutD_app : MutD S false rAppend appM := by
  intro N H a xs ds vs as Q ha hd hv ds' hm q
  unfold appM at hm
  split at hm
  · rename_i y
    split at hm
    · rename_i hl
      cases hm
      obtain ⟨v, rfl, hy⟩ := pd1 hv
      have : lim < sizeLine := by decide
      exact ⟨a, xs, v, rfl, rfl, ha, by rw [hd.len]; omega, q _ _ (hd.app (.one hy))⟩
    · cases hm
  · cases hm
theorem ds_append (i : Nat) {x : Str} {e : Expr} {xp apos cpos pos : Pos} {fs : Ev → Rs (List PyData)} (ha : Da false S [e] fs) (hi : S.N[i]? = some x := by rfl) (hv : Vis S.sc x := by first | exact Or.inl rfl | exact Or.inr (Or.inl rfl) | exact Or.inr (Or.inr rfl)) (hd : (x == ("__debug__" : Str)) = false := by decide) (hcd : (x == ("__classdict__" : Str)) = false := by decide)
    (hfew : ∀ env, ((backTo cpos (starEach [e] env)).all (fun x => !x.1) && (backToKw cpos (keywordEach [] env)).all (fun x => x.1.isSome) && decide ([e].length + ([] : List Keyword).length + (if ([] : List Keyword).isEmpty then 0 else 1) < 30)) = true := by intro _; rfl) (hline : (apos.endLine == cpos.line) = true := by rfl) (hs : ∀ env, starEach [e] env = (false, eval e env) :: starEach [] env := by intro _; rfl) (hpl : ∀ env, (backTo cpos (starEach [] env)).any (·.1) = false := by intro _; rfl) :
    Ds S (.Expr (.Call (.Attribute (.Name x xp) "append" apos) [e] [] cpos) pos) (sMut i appM fs) := ds_mut PySem.F.slot_list_append PySem.F.type_list_append (fun X E c => mt_append) mutD_app noErr_app ha hi hv hd hcd hfew hline hs hpl
noncomputable def extM (ds as : List PyData) : Rs (List PyData) := match as with
  | [.list es] => @ite _ (ds.length + es.length ≤ lim) (Classical.propDecidable _) (.ok (ds ++ es)) (.bad)
  | _ => .bad
theorem noErr_ext : noErrM extM := fun ds as c h => by
  unfold extM at h
  split at h
  · split at h <;> cases h
  · cases h
theorem mutD_ext : MutD S true rExtend extM := by
  intro N H a xs ds vs as Q ha hd hv ds' hm q
  unfold extM at hm
  split at hm
  · rename_i es
    split at hm
    · rename_i hl
      cases hm
      obtain ⟨v, rfl, hy⟩ := pd1 hv
      obtain ⟨b, zs, rfl, eb, kb⟩ := Dw.lst hy
      exact ⟨a, b, xs, zs, rfl, rfl, ha, eb, by rw [hd.len, kb.len]; exact Nat.le_trans hl lim_line, q _ _ (hd.app kb)⟩
    · cases hm
  · cases hm
theorem ds_extend (i : Nat) {x : Str} {e : Expr} {xp apos cpos pos : Pos} {fs : Ev → Rs (List PyData)} (ha : Da true S [e] fs) (hi : S.N[i]? = some x := by rfl) (hv : Vis S.sc x := by first | exact Or.inl rfl | exact Or.inr (Or.inl rfl) | exact Or.inr (Or.inr rfl)) (hd : (x == ("__debug__" : Str)) = false := by decide) (hcd : (x == ("__classdict__" : Str)) = false := by decide)
    (hfew : ∀ env, ((backTo cpos (starEach [e] env)).all (fun x => !x.1) && (backToKw cpos (keywordEach [] env)).all (fun x => x.1.isSome) && decide ([e].length + ([] : List Keyword).length + (if ([] : List Keyword).isEmpty then 0 else 1) < 30)) = true := by intro _; rfl) (hline : (apos.endLine == cpos.line) = true := by rfl) (hs : ∀ env, starEach [e] env = (false, eval e env) :: starEach [] env := by intro _; rfl) (hpl : ∀ env, (backTo cpos (starEach [] env)).any (·.1) = false := by intro _; rfl) :
    Ds S (.Expr (.Call (.Attribute (.Name x xp) "extend" apos) [e] [] cpos) pos) (sMut i extM fs) := ds_mut PySem.F.slot_list_extend PySem.F.type_list_extend (fun X E c => mt_extend) mutD_ext noErr_ext ha hi hv hd hcd hfew hline hs hpl
/-! ### if, for, while -/
def sIf (c : Ev → Rs Bool) (a b : Ev → Rs Out) : Ev → Rs Out := fun ρ => (c ρ).bind fun k => if k = true then a ρ else b ρ
theorem ds_if {c : Expr} {a b : List Stmt} {pos : Pos} {fc : Ev → Rs Bool} {fa fb : Ev → Rs Out} (hc : Dt S c fc) (ha : Dss S a fa) (hb : Dss S b fb) : Ds S (.If c a b pos) (sIf fc fa fb) := by
  obtain ⟨t, h1, h2⟩ := hc
  obtain ⟨u, h3, h4⟩ := ha
  obtain ⟨z, h5, h6⟩ := hb
  refine ⟨fun E => tIfS (t E) (u E) (z E), fun X E c => ps_if (h1 X E c) (h3 X E c) (h5 X E c), fun B H0 N σ H ρ D E r k => h2 B H0 N σ H ρ _ E r ?_⟩
  unfold sIf at k
  cases e1 : fc ρ with
  | bad => rw [e1] at k; exact k
  | err c => rw [e1] at k; exact ES.err r.base k
  | ok b =>
    rw [e1, Rs.bind_ok] at k
    intro H1 s1
    cases b with
    | true =>
      rw [if_pos rfl] at k ⊢
      exact h4 B H0 N σ H1 ρ D E (r.same s1) (k.from (.same s1))
    | false =>
      rw [if_neg Bool.false_ne_true] at k ⊢
      exact h6 B H0 N σ H1 ρ D E (r.same s1) (k.from (.same s1))
def forGo (g : PyData → Ev → Rs Ev) (b : Ev → Rs Out) : List PyData → Ev → Rs Out
  | [], ρ => .ok (.nx ρ)
  | d :: ds, ρ => okE (g d ρ) fun ρ1 => (b ρ1).bind fun
    | .nx ρ2 => forGo g b ds ρ2
    | .cnt ρ2 => forGo g b ds ρ2
    | .brk ρ2 => .ok (.nx ρ2)
    | .ret d => .ok (.ret d)
    | .retp d p => .ok (.retp d p)
def sFor (it : Ev → Rs (List PyData)) (g : PyData → Ev → Rs Ev) (b : Ev → Rs Out) : Ev → Rs Out := fun ρ => (it ρ).bind fun ds => forGo g b ds ρ
theorem ds_for {vs : List Nat} {tg iter : Expr} {body : List Stmt} {pos : Pos} {it : Ev → Rs (List PyData)} {g : PyData → Ev → Rs Ev} {b : Ev → Rs Out} (hi : Di S tg iter it) (hg : Dx vs S tg g) (hb : Dss S body b) (hs : ∀ env x, foldedSetIterable iter env x = pure x := by intro _ _; rfl) : Ds S (.For tg iter body [] pos) (sFor it g b) := by
  obtain ⟨t, h1, h2⟩ := hi
  obtain ⟨u, h3, h4⟩ := hg
  obtain ⟨z, h5, h6⟩ := hb
  refine ⟨fun E => tFor (t E) u (z E), fun X E c => ps_for c.po c.calm (h1 X E c) (h3 X E c) (h5 X E c) (hs _), fun B H0 N σ H ρ D E r k => h2 B H0 N σ H ρ _ E r ?_⟩
  unfold sFor at k
  cases e1 : it ρ with
  | bad => rw [e1] at k; exact k
  | err c => rw [e1] at k; exact ES.err r.base k
  | ok ds =>
    rw [e1, Rs.bind_ok] at k
    intro J H1 s1 hj
    obtain ⟨Sr, j1, j2, j3, j4⟩ := hj.h
    refine ⟨fun i m σ' H' => i + m = ds.length ∧ ∃ N' ρ', Rep S.K B H0 N' σ' H' ρ' ∧ Sr N' H' ∧ KeepF N H N' H' ∧ ES S B H0 N' H' D E (forGo g b (ds.drop i) ρ'), ⟨ds.length, Nat.zero_add _, N, ρ, r.same s1, j1, .same s1, k.from (.same s1)⟩, fun i m σ' H' hW => ?_⟩
    obtain ⟨hm, N', ρ', r', sr, kf, k'⟩ := hW
    match m, hm with
    | 0, hm =>
      have hi : i = ds.length := by omega
      subst hi
      rw [List.drop_length] at k'
      exact .inl ⟨j4 N' H' sr, k' N' σ' H' r' .refl⟩
    | m + 1, hm =>
      have hi : i < ds.length := by omega
      have gd : ds[i]? = some ds[i] := List.getElem?_eq_getElem hi
      rw [List.drop_eq_getElem_cons hi] at k'
      obtain ⟨go, yl⟩ := j3 N' H' i _ sr gd
      refine .inr ⟨go, fun σ2 H2 => ∃ N2 ρ2, Rep S.K B H0 N2 σ2 H2 ρ2 ∧ Sr N2 H2 ∧ KeepF N H N2 H2 ∧ ES S B H0 N2 H2 D E (forGo g b (ds.drop (i + 1)) ρ2), fun σ2 H2 ⟨N2, ρ2, a1, a2, a3, a4⟩ => ⟨m, Nat.lt_succ_self m, by omega, N2, ρ2, a1, a2, a3, a4⟩, fun x H2 y => ?_⟩
      obtain ⟨s2, hx⟩ := yl x H2 y
      refine h4 B H0 N' σ' H2 ρ' x _ _ (r'.same s2) hx ?_
      have k2 : ES S B H0 N' H' D E (okE (g ds[i] ρ') fun ρ1 => (b ρ1).bind fun
        | .nx ρ2 => forGo g b (ds.drop (i + 1)) ρ2
        | .cnt ρ2 => forGo g b (ds.drop (i + 1)) ρ2
        | .brk ρ2 => .ok (.nx ρ2)
        | .ret d => .ok (.ret d)
        | .retp d p => .ok (.retp d p)) := k'
      cases e2 : g ds[i] ρ' with
      | bad => rw [e2] at k2; exact k2
      | err c => rw [e2] at k2; exact k2
      | ok ρ1 =>
        rw [e2] at k2
        intro σ1 r1 _
        refine h6 B H0 N' σ1 H2 ρ1 _ E r1 ?_
        have k2 : ES S B H0 N' H' D E ((b ρ1).bind fun
          | .nx ρ2 => forGo g b (ds.drop (i + 1)) ρ2
          | .cnt ρ2 => forGo g b (ds.drop (i + 1)) ρ2
          | .brk ρ2 => .ok (.nx ρ2)
          | .ret d => .ok (.ret d)
          | .retp d p => .ok (.retp d p)) := k2
        have sk : KeepF N' H' N' H2 := .same s2
        cases e3 : b ρ1 with
        | bad => rw [e3] at k2; exact k2
        | err c => rw [e3] at k2; exact k2
        | ok o =>
          rw [e3, Rs.bind_ok] at k2
          cases o with
          | nx ρ2 => exact fun N2 σ2 H3 r2 kk => ⟨N2, ρ2, r2, j2 _ _ _ _ sr (sk.trans kk), kf.trans (sk.trans kk), ES.from (sk.trans kk) k2⟩
          | cnt ρ2 => exact fun N2 σ2 H3 r2 kk => ⟨N2, ρ2, r2, j2 _ _ _ _ sr (sk.trans kk), kf.trans (sk.trans kk), ES.from (sk.trans kk) k2⟩
          | brk ρ2 => exact fun N2 σ2 H3 r2 kk => k2 N2 σ2 H3 r2 (sk.trans kk)
          | ret d => exact k2
          | retp d p => exact k2
def whileGo (c : Ev → Rs Bool) (b : Ev → Rs Out) : Nat → Ev → Rs Out
  | 0, _ => .bad
  | n + 1, ρ => (c ρ).bind fun k => if k = true then (b ρ).bind fun
    | .nx ρ2 => whileGo c b n ρ2
    | .cnt ρ2 => whileGo c b n ρ2
    | .brk ρ2 => .ok (.nx ρ2)
    | .ret d => .ok (.ret d)
    | .retp d p => .ok (.retp d p)
    else .ok (.nx ρ)
def sWhile (n : Nat) (c : Ev → Rs Bool) (b : Ev → Rs Out) : Ev → Rs Out := whileGo c b n
/-! ### raise -/
def sRaise (c : Str) : Ev → Rs Out := fun _ => .err c
/-! ### a def -/
def start0 (n : Nat) (ds : List PyData) : Ev := ds.map (fun d => some (false, d)) ++ List.replicate (n - ds.length) none
def fn (n : Nat) (body : Ev → Rs Out) : List PyData → Rs PyData := fun ds => (body (start0 n ds)).bind fun
  | .nx _ => .ok .none
  | .ret d => .ok d
  | _ => .bad
end
theorem start_rep {K : PySem.W.Frag} {N : Addr → Prop} {H : Hp} {Nm : List Str} {vs : List V} {ds : List PyData} (hd : DdAll K N H vs ds) (t : Told N H) : Rep K N H N (start Nm vs) H (start0 Nm.length ds) := by
  have hl := hd.len
  have get : ∀ (i : Nat) (b : Bool) d, (start0 Nm.length ds)[i]? = some (some (b, d)) → b = false ∧ ds[i]? = some d := fun i b d h => by
    unfold start0 at h
    by_cases hi : i < ds.length
    · rw [List.getElem?_append_left (by rw [List.length_map]; exact hi), List.getElem?_map, List.getElem?_eq_getElem hi] at h
      cases h
      exact ⟨rfl, List.getElem?_eq_getElem hi⟩
    · rw [List.getElem?_append_right (by rw [List.length_map]; omega), List.getElem?_replicate] at h
      split at h <;> cases h
  refine ⟨?_, Same.refl _, t, fun _ h => h, fun i d h => ?_, fun i d h => ?_, fun i j d e a h1 => ?_, fun i _ a b h _ => absurd (get i _ _ h).1 (by decide), fun i j d e _ _ _ h _ _ _ => absurd (get i _ _ h).1 (by decide)⟩
  · unfold L2.start start0
    simp only [List.length_append, List.length_map, List.length_replicate]
    omega
  · obtain ⟨_, h⟩ := get i _ d h
    obtain ⟨v, hv, kv⟩ := hd.get h
    refine ⟨v, ?_, kv⟩
    unfold L2.start
    have hi : i < vs.length := (List.getElem?_eq_some_iff.mp hv).1
    rw [List.getElem?_append_left (by rw [List.length_map]; exact hi), List.getElem?_map, hv]
    rfl
  · exact absurd (get i _ d h).1 (by decide)
  · exact absurd (get i _ d h1).1 (by decide)
theorem fd_mk {G : Gx} {k : Nat} {x qual : Str} {st : Stmt} {f : Addr} {fd : FuncData} {Nm ps : List Str} {n : Nat} {body : Ev → Rs Out} (F : Fun G.K x qual st f fd) (Sc : FnScope Nm ps (defScope st)) (b : Binds G.K fd ps []) (hm : G.mg x = some (.ref f)) (hn : ps.length = n) {nn : Nat} (hN : Nm.length = nn) (hb : Dss ⟨G, k, Nm, defScope st, fun _ => true⟩ (defBody st) body) : Fd G (k + 1) x n (fn nn body) := by
  subst hN
  refine ⟨f, fd, ps, ?_, hm, F.kp, b⟩
  refine F.okX Sc (fun vs H Q E h => ?_) (fun cdv A outer s H vs Q E hr h => ?_)
  · obtain ⟨N, ds, h1, _⟩ := h
    rw [h1, hn]
  · obtain ⟨N, ds, h1, hd, t, k⟩ := h
    obtain ⟨u, h2, h3⟩ := hb
    refine ⟨u E, h2 _ E ⟨rfl, rfl, rfl, rfl, rfl, rfl, rfl, rfl, hr, takes_of rfl rfl rfl rfl, passes_of rfl, fun _ _ => rfl, fun _ => ⟨rfl, rfl⟩⟩, h3 N H N (start Nm vs) H (start0 Nm.length ds) _ E (start_rep hd t) ?_⟩
    unfold fn at k
    cases e1 : body (start0 Nm.length ds) with
    | bad => rw [e1] at k; exact k
    | err c => rw [e1] at k; exact k
    | ok o =>
      rw [e1, Rs.bind_ok] at k
      cases o with
      | nx ρ => exact fun N' σ' H' r' _ => k .non H' r'.base .non
      | ret d => exact fun v H' s' kk => k v H' s' kk
      | brk ρ => exact k.elim
      | cnt ρ => exact k.elim
      | retp d p => exact k.elim
/-- the class by its name -/
def clsOf (mg : Str → Option Value) (x : Str) : Addr := match mg x with
  | some (.ref a) => a
  | _ => 0
/-- the law's own def -/
theorem fd_fn {G : Gx} {k : Nat} {x qual : Str} {st : Stmt} {f : Addr} {fd : FuncData} {Nm ps : List Str} {n : Nat} {body : Ev → Rs Out} (F : Fun G.K x qual st f fd) (Sc : FnScope Nm ps (defScope st)) (hn : ps.length = n) {nn : Nat} (hN : Nm.length = nn) (hb : Dss ⟨G, k, Nm, defScope st, fun _ => true⟩ (defBody st) body) : FnOk G.P G.w G.K G.mg G.base (L2.CX G.P G.w) (k + 1) f fd ps (spD G.K G.cls n (fn nn body)) := by
  subst hN
  refine F.okX Sc (fun vs H Q E h => ?_) (fun cdv A outer s H vs Q E hr h => ?_)
  · obtain ⟨N, ds, h1, _⟩ := h
    rw [h1, hn]
  · obtain ⟨N, ds, h1, hd, t, k⟩ := h
    obtain ⟨u, h2, h3⟩ := hb
    refine ⟨u E, h2 _ E ⟨rfl, rfl, rfl, rfl, rfl, rfl, rfl, rfl, hr, takes_of rfl rfl rfl rfl, passes_of rfl, fun _ _ => rfl, fun _ => ⟨rfl, rfl⟩⟩, h3 N H N (L2.start Nm vs) H (start0 Nm.length ds) _ E (start_rep hd t) ?_⟩
    unfold fn at k
    cases e1 : body (start0 Nm.length ds) with
    | bad => rw [e1] at k; exact k
    | err c => rw [e1] at k; exact k
    | ok o =>
      rw [e1, Rs.bind_ok] at k
      cases o with
      | nx ρ => exact fun N' σ' H' r' _ => k .non H' r'.base .non
      | ret d => exact fun v H' s' kk => k v H' s' kk
      | brk ρ => exact k.elim
      | cnt ρ => exact k.elim
      | retp d p => exact k.elim
/-- the law's promise -/
def spLawD (K : PySem.W.Frag) : Sp := fun vs H Q _ => ∃ (a : Addr) (ns : List Int), vs = [.ref a] ∧ ns.length ≤ 63 ∧ SqL K H a (ns.map V.int) ∧ ∀ H', Q (.bl true) H'
theorem law_imp {K : PySem.W.Frag} {cls : Str → Addr} {F : List PyData → Rs PyData} (h : ∀ ns : List Int, ns.length ≤ 63 → F [scrD (ns.map PyData.int)] = .ok (.bool true)) : ∀ vs H Q E, spLawD K vs H Q E → spD K cls 1 F vs H Q E := by
  intro vs H Q E ⟨a, ns, e, hl, hs, q⟩
  subst e
  refine ⟨fun _ => False, [scrD (ns.map PyData.int)], rfl, .cons (.scr ?_ (DdAll.ints ns)) .nil, fun _ z => z.elim, ?_⟩
  · rcases hs with hs | hs
    · exact .inl ⟨hs, id⟩
    · exact .inr hs
  · rw [h ns hl]
    intro v H' _ k
    cases k
    exact q H'
theorem cx_false {P : Program} {w : World} (H : Hp) (s : Shared) (e : Value) (s' : Shared) (h : L2.CX P w [] H s (fun _ _ _ => False) e s') : False := by
  obtain ⟨_, _, _, _, _, _, _, _, _, _, _, _, z⟩ := h
  exact z.elim
section
variable {S : Sx} {vs vs1 : List Nat}
/-! ### comprehensions with two fors -/
def bd2 (vs1 : List Nat) (g : PyData → Ev → Rs Ev) (tt : Ev → Rs Bool) (it1 : Ev → Rs (List PyData)) (g1 : PyData → Ev → Rs Ev) (tt1 : Ev → Rs Bool) (fe : Ev → Rs PyData) (ρ : Ev) (d : PyData) : Rs (List PyData) := (g d ρ).bind fun ρ1 => (tt ρ1).bind fun b => if b = true then (it1 ρ1).bind fun es => lcAll (bd1 g1 tt1 fe (wipeE ρ1 vs1)) es else .ok []
noncomputable def lLc2 (vs vs1 : List Nat) (it : Ev → Rs (List PyData)) (g : PyData → Ev → Rs Ev) (tt : Ev → Rs Bool) (it1 : Ev → Rs (List PyData)) (g1 : PyData → Ev → Rs Ev) (tt1 : Ev → Rs Bool) (fe : Ev → Rs PyData) : Ev → Rs (List PyData) := fun ρ => (it ρ).bind fun ds => cap (lcAll (bd2 vs1 g tt it1 g1 tt1 fe (wipeE ρ vs)) ds)
end
section
variable {S : Sx} {w : Bool}
/-! ### a method of a list that changes nothing -/
/-! ### reverse -/
/-! ### sorted, whole numbers -/
end
section
variable {S : Sx} {w : Bool}
/-! ### zip of a tuple and a list -/
/-! ### max of a tuple of ints -/
/-! ### a, b, .. = a list -/
/-! ### a list of one's own handed to a def within a test -/
end
/-! ### dicts of ints -/
def lookI (kvs : List (Int × Int)) (k : Int) : Option Int := (kvs.find? fun p => decide (p.1 = k)).map (·.2)
def putI (kvs : List (Int × Int)) (k v : Int) : List (Int × Int) := if (kvs.any fun p => decide (p.1 = k)) = true then kvs.map (fun p => if p.1 = k then (p.1, v) else p) else kvs ++ [(k, v)]
def asKv : List (PyData × PyData) → Option (List (Int × Int))
  | [] => some []
  | (.int k, .int v) :: r => (asKv r).map ((k, v) :: ·)
  | _ => none
def asDct : PyData → Option (List (Int × Int))
  | .dict ((.bool true, .none) :: r) => asKv r
  | _ => none
theorem asKv_map : ∀ kvs : List (Int × Int), asKv (kvs.map fun p => (PyData.int p.1, PyData.int p.2)) = some kvs
  | [] => rfl
  | (k, v) :: r => by
    show (asKv (r.map fun p => (PyData.int p.1, PyData.int p.2))).map ((k, v) :: ·) = _
    rw [asKv_map r]
    rfl
@[simp] theorem asDct_of (kvs : List (Int × Int)) : asDct (dctD kvs) = some kvs := asKv_map kvs
theorem look_V (kvs : List (Int × Int)) (k : Int) : valV (kvI kvs) (Sum.inl k) = (lookI kvs k).map V.int := by
  induction kvs with
  | nil => rfl
  | cons p r ih =>
    unfold valV lookI at ih ⊢
    simp only [kvI, List.map_cons, List.find?_cons] at ih ⊢
    by_cases h : p.1 = k
    · have h' : (Sum.inl p.1 : Key) = Sum.inl k := by rw [h]
      simp [h, h']
    · have h' : ¬ (Sum.inl p.1 : Key) = Sum.inl k := fun z => h (Sum.inl.inj z)
      simp only [decide_eq_false h, decide_eq_false h']
      exact ih
theorem put_V (kvs : List (Int × Int)) (k v : Int) : putK (kvI kvs) (Sum.inl k) (V.int v) = kvI (putI kvs k v) := by
  have ky : ∀ p : Int × Int, decide ((Sum.inl p.1 : Key) = Sum.inl k) = decide (p.1 = k) := fun p => by
    by_cases h : p.1 = k
    · rw [decide_eq_true h, decide_eq_true (by rw [h])]
    · rw [decide_eq_false h, decide_eq_false (fun z => h (Sum.inl.inj z))]
  unfold putK putI kvI
  rw [List.any_map]
  have e : ((fun kv : Key × V => decide (kv.1 = (Sum.inl k : Key))) ∘ fun p : Int × Int => ((Sum.inl p.1 : Key), V.int p.2)) = fun p : Int × Int => decide (p.1 = k) := funext ky
  rw [e]
  by_cases h : (kvs.any fun p => decide (p.1 = k)) = true
  · rw [if_pos h, if_pos h, List.map_map, List.map_map]
    refine List.map_congr_left fun p _ => ?_
    show (if (Sum.inl p.1 : Key) = Sum.inl k then ((Sum.inl p.1 : Key), V.int v) else (Sum.inl p.1, V.int p.2)) = ((Sum.inl (if p.1 = k then (p.1, v) else p).1 : Key), V.int (if p.1 = k then (p.1, v) else p).2)
    by_cases q : p.1 = k
    · rw [if_pos (by rw [q]), if_pos q]
    · rw [if_neg (fun z => q (Sum.inl.inj z)), if_neg q]
  · rw [if_neg h, if_neg h, List.map_append]
    rfl
section
variable {S : Sx} {w : Bool}
theorem Dw.dctOf {K : PySem.W.Frag} {N : Addr → Prop} {H : Hp} {v : V} {d : PyData} {kvs : List (Int × Int)} (h : Dw K N H v d) (e : asDct d = some kvs) : ∃ a, v = .ref a ∧ H a = some (.dK (kvI kvs)) := by
  cases h with
  | dd h => cases h <;> cases e
  | own _ _ => cases e
  | pen _ _ => cases e
  | src _ _ _ _ => cases e
  | desk _ _ _ => cases e
  | dct kvs' q =>
    rw [asDct_of] at e
    cases e
    exact ⟨_, rfl, q⟩
/-- k in d -/
def inDctD (d e : PyData) : Rs PyData := match asDct e, d with
  | some kvs, .int k => .ok (.bool (lookI kvs k).isSome)
  | _, _ => .bad
theorem op_dIn {X : Cx} (hu : X.A.units + 1 < cLine) : OpR X (compareOp .In) (fun y x H Q => ∃ a o, x = .ref a ∧ DGet H a y o ∧ Q (.bl o.isSome) H) := by
  intro pins s σ H y x iv u Q I ry rx h
  obtain ⟨a, ov, ex, g, q⟩ := h
  subst ex
  obtain rfl : u = Value.ref a := rx
  exact d_in hu I g ry fun s3 I3 => ⟨.bl ov.isSome, H, I3, rfl, q⟩
theorem opD_inDct : OpD S w (fun y x H Q => ∃ a o, x = .ref a ∧ DGet H a y o ∧ Q (.bl o.isSome) H) inDctD := by
  intro N H x y d e Q E t hx hy k
  unfold inDctD at k
  split at k
  · rename_i kvs z q1
    obtain ⟨a, rfl, ea⟩ := hy.dctOf q1
    cases hx.int
    refine ⟨a, _, rfl, .k (k := Sum.inl z) ea, k _ H (Same.refl _) (.of ?_)⟩
    rw [look_V, Option.isSome_map]
    exact .bl _
  · exact k.elim
theorem cmp_inDct : CmpD S .In inDctD := ⟨_, fun X E c => op_dIn (by have := c.room.un; omega), fun w => opD_inDct⟩
/-- d[k] -/
def getDctD (d e : PyData) : Rs PyData := match asDct d, e with
  | some kvs, .int k => match lookI kvs k with
    | some v => .ok (.int v)
    | none => .bad
  | _, _ => .bad
theorem opD_getDct : OpD S w (fun x y H Q => ∃ a v, x = .ref a ∧ DGet H a y (some v) ∧ Q v H) getDctD := by
  intro N H x y d e Q E t hx hy k
  unfold getDctD at k
  split at k
  · rename_i kvs z q1
    cases q2 : lookI kvs z with
    | none => rw [q2] at k; exact k.elim
    | some v =>
      rw [q2] at k
      obtain ⟨a, rfl, ea⟩ := hx.dctOf q1
      cases hy.int
      have g := DGet.k (k := Sum.inl z) ea
      rw [look_V, q2] at g
      exact ⟨a, _, rfl, g, k _ H (Same.refl _) (.of (.int _))⟩
  · exact k.elim
theorem de_getDct {a b : Expr} {pos : Pos} {fa fb : Ev → Rs PyData} (ha : De true S a fa) (hb : De true S b fb) (hs : NoSl b := by exact fun _ _ => rfl) : De w S (.Subscript a b pos) (e2 getDctD fa fb) :=
  de_two (r := fun x y H Q => ∃ a v, x = .ref a ∧ DGet H a y (some v) ∧ Q v H) (fun X E c ta tb h1 h2 => pe_dget (by have := c.room.un; omega) h1 h2 hs) opD_getDct ha hb
/-- x = {} -/
def sSetD (i : Nat) : Ev → Rs Out := fun ρ => .ok (.nx (ρ.set i (some (true, dctD []))))
theorem ds_setD (i : Nat) {x : Str} {pos pos' p : Pos} (nd : S.N.Nodup) (hi : S.N[i]? = some x := by rfl) (hx : LocS S x := by first | exact Or.inl rfl | exact Or.inr ⟨rfl, rfl⟩) (hs : ∀ env : Env, env.scope = S.sc → swapsWith (.Dict [] [] p) (some (.Name x pos')) pos.line env = pure false := by intro _ _; rfl) : Ds S (.Assign [.Name x pos'] (.Dict [] [] p) pos) (sSetD i) :=
  ⟨fun E => tAsg tDNewK (gName i), fun X E c => ps_set (by rw [c.N]; exact nd) (n_of c hi) (loc_of c hx).1 pe_dnewK (hs _ c.sc) (loc_of c hx).2, fun B H0 N σ H ρ D E r k => fun p hp => by
    have s : Same H (upd H p (.dK (kvI []))) := same_upd hp
    exact k _ _ (upd H p (.dK (kvI []))) (r.setOw i s hp upd_same (.dct [])) ⟨fun a o q n => ⟨s a o q, fun z => z.elim n (ne_of_none q hp)⟩, fun a xs q => same_rd s q⟩⟩
/-- d[k] = v -/
noncomputable def sPutD (i : Nat) (fv fk : Ev → Rs PyData) : Ev → Rs Out := fun ρ => (fv ρ).bind fun v => (match ρ[i]? with
  | some (some (true, d)) => (match asDct d with
    | some kvs => (fk ρ).bind fun k => (match k, v with
      | .int k, .int v => @ite _ (kvs.length < lim) (Classical.propDecidable _) (.ok (.nx (ρ.set i (some (true, dctD (putI kvs k v)))))) .bad
      | _, _ => .bad)
    | none => .bad)
  | _ => .bad)
theorem ds_putD (i : Nat) {x : Str} {e j : Expr} {xp pos pos' : Pos} {fv fk : Ev → Rs PyData} (he : De false S e fv) (hj : De true S j fk) (hi : S.N[i]? = some x := by rfl) (hv : Vis S.sc x := by first | exact Or.inl rfl | exact Or.inr (Or.inl rfl) | exact Or.inr (Or.inr rfl)) (hd : (x == ("__debug__" : Str)) = false := by decide) (hcd : (x == ("__classdict__" : Str)) = false := by decide)
    (hs : ∀ env : Env, swapsWith e (some (.Subscript (.Name x xp) j pos')) pos.line env = pure false := by intro _; rfl) : Ds S (.Assign [.Subscript (.Name x xp) j pos'] e pos) (sPutD i fv fk) := by
  obtain ⟨t, h1, h2⟩ := he
  obtain ⟨u, h3, h4⟩ := hj
  refine ⟨fun E => sDPut (tVar i) (u E) (t E), fun X E c => ps_dput (by have := c.room.un; omega) (pe_var (n_of c hi) (vis_of c hv) hd hcd) (h3 X E c) (h1 X E c) (hs _), fun B H0 N σ H ρ D E r k => h2 B H0 N σ H ρ _ E r ?_⟩
  unfold sPutD at k
  cases e1 : fv ρ with
  | bad => rw [e1] at k; exact k
  | err c => rw [e1] at k; exact ES.err r.base k
  | ok v =>
    rw [e1, Rs.bind_ok] at k
    intro y H1 s1 k1
    split at k
    · rename_i d q
      cases qd : asDct d with
      | none => rw [qd] at k; exact k.elim
      | some kvs =>
        rw [qd] at k
        obtain ⟨a, o, f1, f3, f4, f5⟩ := r.own i _ q
        obtain rfl : o = .dK (kvI kvs) := by
          cases f4 with
          | lst _ => cases qd
          | pen _ => cases qd
          | src _ _ _ => cases qd
          | desk _ _ => cases qd
          | dct kvs' =>
            rw [asDct_of] at qd
            cases qd
            rfl
        refine ⟨.ref a, f1, h4 B H0 N σ H1 ρ _ E (r.same s1) ?_⟩
        cases e2 : fk ρ with
        | bad => simp only [e2, Rs.bind_bad] at k; exact k
        | err c => simp only [e2, Rs.bind_err] at k; exact fun H' s' => ES.err r.base k H' (s1.trans s')
        | ok kd =>
          simp only [e2, Rs.bind_ok] at k
          intro z H2 s2 k2
          split at k
          · rename_i kk vv
            by_cases hl : kvs.length < lim
            · rw [if_pos hl] at k
              have s12 := s1.trans s2
              have r2 := r.same s12
              cases (DW.w k2).int
              have k1' : Dd S.K N H1 y (.int vv) := k1
              cases k1'
              have sz : (kvI kvs).length < sizeLine := by
                rw [List.length_map]
                exact Nat.lt_of_lt_of_le hl (by decide)
              have dp := DPut.k (k := Sum.inl kk) (v := V.int vv) (s12 _ _ f3) sz
              rw [put_V] at dp
              refine ⟨a, _, rfl, dp, ?_⟩
              obtain ⟨r3, kf⟩ := r2.mutO (o' := .dK (kvI (putI kvs kk vv))) q f1 (.dct _)
              exact k N σ _ r3 ((KeepF.same s12).trans kf)
            · rw [if_neg hl] at k
              exact k.elim
          · exact k.elim
    · exact k.elim
/-! ### len(set(t)) of a tuple of ints -/
def dedI : List Int → List Int
  | [] => []
  | x :: r => if x ∈ r then dedI r else x :: dedI r
theorem dedI_mem : ∀ {l : List Int} {x : Int}, x ∈ dedI l ↔ x ∈ l
  | [], x => Iff.rfl
  | y :: l, x => by
    unfold dedI
    by_cases h : y ∈ l
    · rw [if_pos h, dedI_mem (l := l)]
      refine ⟨fun q => List.mem_cons_of_mem _ q, fun q => ?_⟩
      rcases List.mem_cons.mp q with rfl | q
      · exact h
      · exact q
    · rw [if_neg h, List.mem_cons, List.mem_cons, dedI_mem (l := l)]
theorem dedI_nodup : ∀ l : List Int, (dedI l).Nodup
  | [] => List.nodup_nil
  | y :: l => by
    unfold dedI
    by_cases h : y ∈ l
    · rw [if_pos h]; exact dedI_nodup l
    · rw [if_neg h]; exact List.nodup_cons.mpr ⟨fun z => h (dedI_mem.mp z), dedI_nodup l⟩
theorem dedI_len : ∀ l : List Int, (dedI l).length ≤ l.length
  | [] => Nat.le_refl _
  | y :: l => by
    have := dedI_len l
    unfold dedI
    split
    · rw [List.length_cons]; omega
    · rw [List.length_cons, List.length_cons]; omega
theorem dedI_eq : ∀ {l : List Int}, (dedI l).length = l.length ↔ l.Nodup
  | [] => ⟨fun _ => List.nodup_nil, fun _ => rfl⟩
  | y :: l => by
    have h1 := dedI_len l
    have ih := dedI_eq (l := l)
    unfold dedI
    by_cases h : y ∈ l
    · rw [if_pos h]
      refine ⟨fun q => ?_, fun q => absurd h (List.nodup_cons.mp q).1⟩
      rw [List.length_cons] at q
      omega
    · rw [if_neg h, List.length_cons, List.length_cons, List.nodup_cons]
      exact ⟨fun q => ⟨h, ih.mp (by omega)⟩, fun q => by rw [ih.mpr q.2]⟩
theorem sub_len : ∀ {l r : List Int}, l.Nodup → (∀ x ∈ l, x ∈ r) → l.length ≤ r.length
  | [], r, _, _ => Nat.zero_le _
  | x :: l, r, hn, hs => by
    obtain ⟨h1, h2⟩ := List.nodup_cons.mp hn
    have hx := hs x List.mem_cons_self
    have ih := sub_len (l := l) (r := r.erase x) h2 fun y hy => (List.mem_erase_of_ne (fun z : y = x => h1 (z ▸ hy))).mpr (hs y (List.mem_cons_of_mem _ hy))
    rw [List.length_erase_of_mem hx] at ih
    have := List.length_pos_of_mem hx
    rw [List.length_cons]
    omega
def tLenSetT (K : PySem.W.Frag) (ta : TE) : TE := fun σ H Q => ta σ H fun x H1 => ∃ (l : Addr) (ns : List Int), x = .ref l ∧ SqT K H1 l (ns.map V.int) ∧ ns.length ≤ 4000 ∧ Q (.int ((dedI ns).length : Nat)) H1
theorem pe_lenSetT {X : Cx} {a : Expr} {ta : TE} {p p2 q pos : Pos} (hg : Gl X "len") (hm : X.mg "len" = none) (hg2 : Gl X "set") (hm2 : X.mg "set" = none) (ha : PE X a ta) (hc : X.calm = true)
    (na : starEach [a] X.env = (false, eval a X.env) :: starEach [] X.env) : PE X (.Call (.Name "len" p) [.Call (.Name "set" p2) [a] [] q] [] pos) (tLenSetT X.K ta) := by
  refine ⟨fun pins s σ H Q I h => ?_⟩
  refine Call_ (ld_blt I hg hm boot_len ?_)
  refine PyProof.Rows.callWith_builtin1 (PyProof.Rows.args_cons ?_ rfl) rfl rfl
  refine Call_ (ld_blt I hg2 hm2 boot_set ?_)
  refine PyProof.Rows.callWith_type1 (PyProof.Rows.args_cons (thn (ha.run pins s σ H _ I h) fun v s1 ⟨x, H1, I1, r1, q1⟩ => PyProof.Rows.args_nil ?_) na) na rfl
  obtain ⟨l, ns, rfl, hq, hl, q1⟩ := q1
  cases r1
  obtain ⟨its, r, pl, hz⟩ := I1.tuple hq
  refine call_set_tupI ns (I1.ok.hd hc) pl (by simpa using RZ.intsAre_vals r) (by unfold scanBound; omega) fun h' tk c hS hcl hk => ?_
  refine PyProof.Rows.args_nil ?_
  obtain ⟨o, es, ep, t, ho, hex, hd, _, nd, mem, _, hf, hn, _⟩ := hS
  have I2 : Inv X pins σ H1 { s1 with heap := h', toks := tk } := I1.kept hk
  have hcc : c = (dedI ns).length := by
    have e1 : (es.toList.map keyOf).length = c := by rw [List.length_map, Array.length_toList]; exact hn
    have m : ∀ x, x ∈ es.toList.map keyOf ↔ x ∈ dedI ns := fun x => by
      rw [dedI_mem, ← mem x, decide_eq_true_iff]
    have a1 := sub_len nd fun x hx => (m x).mp hx
    have a2 := sub_len (dedI_nodup ns) fun x hx => (m x).mpr hx
    omega
  exact call_len_set ho hex hd hf (by rw [hn] <;> omega) ⟨.int ((dedI ns).length : Nat), H1, I2.tok _, ⟨_, by rw [hn, hcc]⟩, q1⟩
noncomputable def lenSetD (d : PyData) : Rs PyData := match d with
  | .tuple ds => (match asInts ds with
    | some ns => @ite _ (ns.length ≤ 4000) (Classical.propDecidable _) (.ok (.int ((dedI ns).length : Nat))) .bad
    | none => .bad)
  | _ => .bad
theorem de_lenSet {a : Expr} {p p2 q pos : Pos} {f : Ev → Rs PyData} (hm : S.mg "len" = none) (hm2 : S.mg "set" = none) (ha : De true S a f) (hg : Gn S "len" := by rfl) (hg2 : Gn S "set" := by rfl) (na : ∀ env, starEach [a] env = (false, eval a env) :: starEach [] env := by intro _; rfl) : De w S (.Call (.Name "len" p) [.Call (.Name "set" p2) [a] [] q] [] pos) (e1 lenSetD f) := by
  obtain ⟨t, h1, h2⟩ := ha
  refine ⟨fun E => tLenSetT S.K (t E), fun X E c => by rw [← c.K]; exact pe_lenSetT (gl_of c hg) (by rw [c.mg]; exact hm) (gl_of c hg2) (by rw [c.mg]; exact hm2) (h1 X E c) c.calm (na _), fun B H0 N σ H ρ Q E rp k => h2 B H0 N σ H ρ _ E rp ?_⟩
  have k : EE w S N H Q E ((f ρ).bind lenSetD) := k
  cases e1 : f ρ with
  | bad => rw [e1] at k; exact k
  | err c => rw [e1] at k; exact k
  | ok d =>
    rw [e1, Rs.bind_ok] at k
    intro v H1 s1 k1
    unfold lenSetD at k
    split at k
    · split at k
      · rename_i ns hn
        by_cases hl : ns.length ≤ 4000
        · rw [if_pos hl] at k
          obtain ⟨b, xs, rfl, e2, kk⟩ := (DW.w k1).tup
          exact ⟨b, ns, rfl, by rw [← dd_ints kk hn]; exact e2, hl, k _ H1 s1 (.of (.int _))⟩
        · rw [if_neg hl] at k
          exact k.elim
      · exact k.elim
    · exact k.elim
end
/-! ### x in range(n) -/
/-! ### enumerate(zip(a, b)) -/
section
variable {S : Sx}
def iEnumZipD (fs : Ev → Rs (List PyData)) : Ev → Rs (List PyData) := fun ρ => (fs ρ).bind fun
  | [.tuple as, .tuple bs] => .ok (enumG 0 (zipD as bs))
  | _ => .bad
end
/-! ### how the functions over data are reckoned -/
@[simp] theorem bind_ok' {α β : Type} (a : α) (f : α → Rs β) : (Rs.ok a).bind f = f a := rfl
@[simp] theorem bind_err' {α β : Type} (c : Str) (f : α → Rs β) : (Rs.err c : Rs α).bind f = .err c := rfl
@[simp] theorem bind_bad' {α β : Type} (f : α → Rs β) : (Rs.bad : Rs α).bind f = .bad := rfl
@[simp] theorem bind_assoc' {α β γ : Type} (r : Rs α) (f : α → Rs β) (g : β → Rs γ) : (r.bind f).bind g = r.bind fun a => (f a).bind g := by cases r <;> rfl
section
variable (ρ : Ev)
@[simp] theorem z_var (i : Nat) : eVar i ρ = (match ρ[i]? with | some (some (false, d)) => .ok d | _ => .bad) := rfl
@[simp] theorem z_varR (i : Nat) : eVarR i ρ = (match ρ[i]? with | some (some (_, d)) => .ok d | _ => .bad) := rfl
@[simp] theorem z_C (d : PyData) : eC d ρ = .ok d := rfl
@[simp] theorem z_2 (g : PyData → PyData → Rs PyData) (a b : Ev → Rs PyData) : e2 g a b ρ = (a ρ).bind fun d => (b ρ).bind fun e => g d e := rfl
@[simp] theorem z_1 (g : PyData → Rs PyData) (a : Ev → Rs PyData) : e1 g a ρ = (a ρ).bind g := rfl
@[simp] theorem z_aNil : aNil ρ = .ok [] := rfl
@[simp] theorem z_aCons (f : Ev → Rs PyData) (g : Ev → Rs (List PyData)) : aCons f g ρ = (f ρ).bind fun d => (g ρ).bind fun ds => .ok (d :: ds) := rfl
@[simp] theorem z_tup (f : Ev → Rs (List PyData)) : eTup f ρ = (f ρ).bind fun ds => .ok (.tuple ds) := rfl
@[simp] theorem z_L (f : Ev → Rs (List PyData)) : eL f ρ = (f ρ).bind fun ds => .ok (.list ds) := rfl
@[simp] theorem z_CB (g : List PyData → Rs PyData) (f : Ev → Rs (List PyData)) : eCB g f ρ = (f ρ).bind g := rfl
@[simp] theorem z_call (g : List PyData → Rs PyData) (f : Ev → Rs (List PyData)) : eCall g f ρ = (f ρ).bind g := rfl
@[simp] theorem z_tB (f : Ev → Rs PyData) : tB' f ρ = (f ρ).bind bD := rfl
@[simp] theorem z_bD (b : Bool) : bD (.bool b) = .ok b := rfl
@[simp] theorem z_tNot (f : Ev → Rs Bool) : tNot' f ρ = (f ρ).bind fun b => .ok (!b) := rfl
@[simp] theorem z_tOr (f g : Ev → Rs Bool) : tOr' f g ρ = (f ρ).bind fun b => if b = true then .ok true else g ρ := rfl
@[simp] theorem z_not (f : Ev → Rs PyData) : eNot f ρ = (f ρ).bind fun d => (bD d).bind fun b => .ok (.bool (!b)) := rfl
@[simp] theorem z_and (f g : Ev → Rs PyData) : eAnd f g ρ = (f ρ).bind fun d => (bD d).bind fun b => if b = true then g ρ else .ok (.bool false) := rfl
@[simp] theorem z_if (c : Ev → Rs Bool) (f g : Ev → Rs PyData) : eIf c f g ρ = (c ρ).bind fun b => if b = true then f ρ else g ρ := rfl
@[simp] theorem z_chain (g g' : PyData → PyData → Rs PyData) (fa fb fc : Ev → Rs PyData) : eChain g g' fa fb fc ρ = (fa ρ).bind fun a => (fb ρ).bind fun b => (g a b).bind fun z => (bD z).bind fun k => if k = true then (fc ρ).bind fun c => g' b c else .ok (.bool false) := rfl
@[simp] theorem z_tr (f : Ev → Rs PyData) : tTr f ρ = (f ρ).bind truD := rfl
@[simp] theorem z_seq (a b : Ev → Rs Out) : sSeq a b ρ = (a ρ).bind fun | .nx ρ' => b ρ' | o => .ok o := rfl
@[simp] theorem z_nil : sNil ρ = .ok (.nx ρ) := rfl
@[simp] theorem z_set (i : Nat) (f : Ev → Rs PyData) : sSet i f ρ = (f ρ).bind fun d => .ok (.nx (ρ.set i (some (false, d)))) := rfl
@[simp] theorem z_setO (i : Nat) (f : Ev → Rs (List PyData)) : sSetO i f ρ = (f ρ).bind fun ds => .ok (.nx (ρ.set i (some (true, .list ds)))) := rfl
@[simp] theorem z_asg (f : Ev → Rs PyData) (g : PyData → Ev → Rs Ev) : sAsg f g ρ = (f ρ).bind fun d => okE (g d ρ) fun ρ' => .ok (.nx ρ') := rfl
@[simp] theorem z_okE (f : Ev → Rs Out) : okE (.ok ρ) f = f ρ := rfl
@[simp] theorem z_gN (i : Nat) (d : PyData) : gN i d ρ = .ok (ρ.set i (some (false, d))) := rfl
@[simp] theorem z_gsN : gsN [] ρ = .ok ρ := rfl
@[simp] theorem z_gsC (g : PyData → Ev → Rs Ev) (gs : List PyData → Ev → Rs Ev) (d : PyData) (ds : List PyData) : gsC g gs (d :: ds) ρ = (g d ρ).bind (gs ds) := rfl
@[simp] theorem z_gT (n : Nat) (gs : List PyData → Ev → Rs Ev) (ds : List PyData) : gT n gs (.tuple ds) ρ = if ds.length = n then gs ds ρ else .bad := rfl
@[simp] theorem z_ret (f : Ev → Rs PyData) : sRet f ρ = (f ρ).bind fun d => .ok (.ret d) := rfl
@[simp] theorem z_sIf (c : Ev → Rs Bool) (a b : Ev → Rs Out) : sIf c a b ρ = (c ρ).bind fun k => if k = true then a ρ else b ρ := rfl
@[simp] theorem z_for (it : Ev → Rs (List PyData)) (g : PyData → Ev → Rs Ev) (b : Ev → Rs Out) : sFor it g b ρ = (it ρ).bind fun ds => forGo g b ds ρ := rfl
@[simp] theorem z_frz (i : Nat) (g : Ev → Rs Out) : sFrz i g ρ = (match ρ[i]? with | some (some (true, .list ds)) => g (ρ.set i (some (false, .list ds))) | some (some (false, _)) => g ρ | _ => .bad) := rfl
@[simp] theorem z_mut (i : Nat) (m : List PyData → List PyData → Rs (List PyData)) (fs : Ev → Rs (List PyData)) : sMut i m fs ρ = (match ρ[i]? with | some (some (true, .list ds)) => (fs ρ).bind fun as => (m ds as).bind fun ds' => .ok (.nx (ρ.set i (some (true, .list ds')))) | _ => .bad) := rfl
@[simp] theorem z_while (n : Nat) (c : Ev → Rs Bool) (b : Ev → Rs Out) : sWhile n c b ρ = whileGo c b n ρ := rfl
@[simp] theorem z_raise (c : Str) : sRaise c ρ = .err c := rfl
@[simp] theorem z_rg1 (f : Ev → Rs PyData) : rg1D f ρ = (f ρ).bind fun | .int i => @ite _ (rgOk 0 i = true) (Classical.propDecidable _) (.ok ((0 : Int), i)) .bad | _ => .bad := rfl
@[simp] theorem z_iRg (f : Ev → Rs (Int × Int)) : iRg f ρ = (f ρ).bind fun z => .ok (rgD z.1 z.2) := rfl
@[simp] theorem z_items (f : Ev → Rs PyData) : iItems f ρ = (f ρ).bind itemsD := rfl
@[simp] theorem z_enum (f : Ev → Rs PyData) : iEnumD f ρ = (f ρ).bind fun d => (itemsD d).bind fun ds => .ok (enumG 0 ds) := rfl
@[simp] theorem z_zip (f : Ev → Rs (List PyData)) : iZipD f ρ = (f ρ).bind fun | [.tuple as, .tuple bs] => .ok (zipD as bs) | [.list as, .list bs] => .ok (zipD as bs) | _ => .bad := rfl
@[simp] theorem z_tupR (f : Ev → Rs (Int × Int)) : eTupR f ρ = (f ρ).bind fun z => .ok (.tuple (rgD z.1 z.2)) := rfl
@[simp] theorem z_lRg (f : Ev → Rs (Int × Int)) : lRg f ρ = (f ρ).bind fun z => .ok (rgD z.1 z.2) := rfl
@[simp] theorem z_lLc (vs : List Nat) (it : Ev → Rs (List PyData)) (g : PyData → Ev → Rs Ev) (tt : Ev → Rs Bool) (fe : Ev → Rs PyData) : lLc vs it g tt fe ρ = (it ρ).bind fun ds => cap (lcAll (bd1 g tt fe (wipeE ρ vs)) ds) := rfl
@[simp] theorem z_lLc2 (vs vs1 : List Nat) (it : Ev → Rs (List PyData)) (g : PyData → Ev → Rs Ev) (tt : Ev → Rs Bool) (it1 : Ev → Rs (List PyData)) (g1 : PyData → Ev → Rs Ev) (tt1 : Ev → Rs Bool) (fe : Ev → Rs PyData) : lLc2 vs vs1 it g tt it1 g1 tt1 fe ρ = (it ρ).bind fun ds => cap (lcAll (bd2 vs1 g tt it1 g1 tt1 fe (wipeE ρ vs)) ds) := rfl
@[simp] theorem z_bd1 (g : PyData → Ev → Rs Ev) (tt : Ev → Rs Bool) (fe : Ev → Rs PyData) (d : PyData) : bd1 g tt fe ρ d = (g d ρ).bind fun ρ1 => (tt ρ1).bind fun b => if b = true then (fe ρ1).bind fun y => .ok [y] else .ok [] := rfl
@[simp] theorem z_bd2 (vs1 : List Nat) (g : PyData → Ev → Rs Ev) (tt : Ev → Rs Bool) (it1 : Ev → Rs (List PyData)) (g1 : PyData → Ev → Rs Ev) (tt1 : Ev → Rs Bool) (fe : Ev → Rs PyData) (d : PyData) : bd2 vs1 g tt it1 g1 tt1 fe ρ d = (g d ρ).bind fun ρ1 => (tt ρ1).bind fun b => if b = true then (it1 ρ1).bind fun es => lcAll (bd1 g1 tt1 fe (wipeE ρ1 vs1)) es else .ok [] := rfl
@[simp] theorem z_tY : tY ρ = .ok true := rfl
@[simp] theorem z_part (f : Ev → Rs PyData) : ePart f ρ = (f ρ).bind fun | .int i => .ok (some i) | _ => .bad := rfl
@[simp] theorem z_noPart : eNoPart ρ = .ok none := rfl
@[simp] theorem z_sl (f : Ev → Rs PyData) (a b : Ev → Rs (Option Int)) : eSl f a b ρ = ((f ρ).bind fun d => (a ρ).bind fun l => (b ρ).bind fun h => Rs.ok (d, l, h)).bind fun z => slD z.1 z.2.1 z.2.2 := rfl
@[simp] theorem z_wipe0 : wipeE ρ [] = ρ := rfl
@[simp] theorem z_wipe1 (v : Nat) (vs : List Nat) : wipeE ρ (v :: vs) = (wipeE ρ vs).set v none := rfl
end
@[simp] theorem z_fn (n : Nat) (b : Ev → Rs Out) (ds : List PyData) : fn n b ds = (b (start0 n ds)).bind fun | .nx _ => .ok .none | .ret d => .ok d | _ => .bad := rfl
@[simp] theorem z_start (n : Nat) (ds : List PyData) : start0 n ds = ds.map (fun d => some (false, d)) ++ List.replicate (n - ds.length) none := rfl
/-! ### single operations -/
@[simp] theorem q_add (i j : Int) : addD (.int i) (.int j) = .ok (.int (i + j)) := rfl
@[simp] theorem q_sub (i j : Int) : subD (.int i) (.int j) = .ok (.int (i - j)) := rfl
theorem q_addT {a b : List PyData} (h : a.length + b.length ≤ lim) : addD (.tuple a) (.tuple b) = .ok (.tuple (a ++ b)) := if_pos h
theorem q_addL {a b : List PyData} (h : a.length + b.length ≤ lim) : addD (.list a) (.list b) = .ok (.list (a ++ b)) := if_pos h
theorem q_mul {i j : Int} (h1 : wide i = true) (h2 : wide j = true) : mulD (.int i) (.int j) = .ok (.int (i * j)) := by
  show (@ite _ ((wide i && wide j) = true) (Classical.propDecidable _) _ _) = _
  exact if_pos (by rw [h1, h2]; rfl)
theorem wide_of {i : Int} {n : Nat} (h : i.natAbs < 2 ^ n) (hn : n ≤ 9000) (h0 : 0 < n := by decide) : wide i = true := decide_eq_true (Nat.lt_of_lt_of_le (PySem.Flt.log2_lt_of h0 h) hn)
theorem wide_small {i : Int} (h1 : -(2 ^ 200) < i) (h2 : i < 2 ^ 200) : wide i = true := wide_of (n := 200) (by omega) (by decide)
theorem q_mod {i j : Int} (h : 0 < j) : modD (.int i) (.int j) = .ok (.int (i % j)) := by
  show (@ite _ (decide (0 < j) = true) (Classical.propDecidable _) _ _) = _
  exact if_pos (decide_eq_true h)
theorem q_div {i j : Int} (h : 0 < j) (h2 : wide j = true) : divD (.int i) (.int j) = .ok (.int (i / j)) := by
  show (@ite _ ((decide (0 < j) && wide j) = true) (Classical.propDecidable _) _ _) = _
  exact if_pos (by rw [decide_eq_true h, h2]; rfl)
theorem q_divmod {i j : Int} (h : 0 < j) (h2 : wide j = true) : divmodD [.int i, .int j] = .ok (.tuple [.int (i / j), .int (i % j)]) := by
  show (@ite _ ((decide (0 < j) && wide j) = true) (Classical.propDecidable _) _ _) = _
  exact if_pos (by rw [decide_eq_true h, h2]; rfl)
theorem q_pow {i j : Int} (h0 : 0 ≤ j) (h1 : j ≤ 1000000) (h2 : i.natAbs < 2 ^ 64) : powD (.int i) (.int j) = .ok (.int (i ^ j.toNat)) := by
  show (@ite _ ((decide (0 ≤ j) && decide (j ≤ 1000000) && decide (i.natAbs < 2 ^ 64)) = true) (Classical.propDecidable _) _ _) = _
  exact if_pos (by rw [decide_eq_true h0, decide_eq_true h1, decide_eq_true h2]; rfl)
@[simp] theorem q_lt (i j : Int) : ltD (.int i) (.int j) = .ok (.bool (decide (i < j))) := rfl
@[simp] theorem q_gt (i j : Int) : gtD (.int i) (.int j) = .ok (.bool (decide (j < i))) := rfl
@[simp] theorem q_le (i j : Int) : leD (.int i) (.int j) = .ok (.bool (decide (i ≤ j))) := rfl
@[simp] theorem q_ge (i j : Int) : geD (.int i) (.int j) = .ok (.bool (decide (j ≤ i))) := rfl
@[simp] theorem q_eqI (i j : Int) : eqD (.int i) (.int j) = .ok (.bool (i == j)) := if_pos rfl
@[simp] theorem q_neI (i j : Int) : neD (.int i) (.int j) = .ok (.bool (!(i == j))) := if_pos rfl
theorem q_eq {d e : PyData} (h1 : SeqAt.shaped d = true) (h2 : SeqAt.shaped e = true) : eqD d e = .ok (.bool (PyData.eqv d e)) := by
  unfold eqD
  exact if_pos (by rw [h1, h2]; rfl)
theorem q_ne {d e : PyData} (h1 : SeqAt.shaped d = true) (h2 : SeqAt.shaped e = true) : neD d e = .ok (.bool (!PyData.eqv d e)) := by
  unfold neD
  exact if_pos (by rw [h1, h2]; rfl)
@[simp] theorem q_is (d : PyData) : isD d .none = .ok (.bool (isNoneD d)) := rfl
@[simp] theorem q_isNot (d : PyData) : isNotD d .none = .ok (.bool (!isNoneD d)) := rfl
@[simp] theorem q_isN0 : isNoneD .none = true := rfl
@[simp] theorem q_isN1 (ds : List PyData) : isNoneD (.tuple ds) = false := rfl
@[simp] theorem q_isN2 (ds : List PyData) : isNoneD (.list ds) = false := rfl
@[simp] theorem q_isN3 (i : Int) : isNoneD (.int i) = false := rfl
@[simp] theorem q_lenL (ds : List PyData) : lenD [.list ds] = .ok (.int ds.length) := rfl
@[simp] theorem q_lenT (ds : List PyData) : lenD [.tuple ds] = .ok (.int ds.length) := rfl
@[simp] theorem q_lenS (ds : List PyData) : lenD [scrD ds] = .ok (.int ds.length) := rfl
@[simp] theorem q_tupL (ds : List PyData) : tupleD [.list ds] = .ok (.tuple ds) := rfl
@[simp] theorem q_tupT (ds : List PyData) : tupleD [.tuple ds] = .ok (.tuple ds) := rfl
@[simp] theorem q_itL (ds : List PyData) : itemsD (.list ds) = .ok ds := rfl
@[simp] theorem q_itT (ds : List PyData) : itemsD (.tuple ds) = .ok ds := rfl
@[simp] theorem q_itS (ds : List PyData) : itemsD (scrD ds) = .ok ds := rfl
@[simp] theorem q_max (i j : Int) : max2D [.int i, .int j] = .ok (.int (if j > i then j else i)) := rfl
@[simp] theorem q_revT (ds : List PyData) : revTD (.tuple ds) = .ok (.tuple ds.reverse) := rfl
@[simp] theorem q_revL (ds : List PyData) : revLD (.list ds) = .ok (.list ds.reverse) := rfl
@[simp] theorem q_slT (ds : List PyData) (lo hi : Option Int) : slD (.tuple ds) lo hi = .ok (.tuple (cutD ds lo hi)) := rfl
@[simp] theorem q_slL (ds : List PyData) (lo hi : Option Int) : slD (.list ds) lo hi = .ok (.list (cutD ds lo hi)) := rfl
theorem q_sum (ns : List Int) : sumD [.list (ns.map PyData.int)] = .ok (.int ns.sum) := by
  show (match asInts (ns.map PyData.int) with | some ns => Rs.ok (PyData.int ns.sum) | none => .bad) = _
  rw [asInts_map]
theorem q_all (bs : List Bool) : allD [.list (bs.map PyData.bool)] = .ok (.bool (bs.all id)) := by
  show (match asBools (bs.map PyData.bool) with | some ns => Rs.ok (PyData.bool (ns.all id)) | none => .bad) = _
  rw [asBools_map]
theorem q_app {ds : List PyData} {y : PyData} (h : ds.length < lim) : appM ds [y] = .ok (ds ++ [y]) := if_pos h
theorem q_ext {ds es : List PyData} (h : ds.length + es.length ≤ lim) : extM ds [.list es] = .ok (ds ++ es) := if_pos h
theorem q_ixT {ds : List PyData} {i : Int} {z : PyData} (h : atI ds i = some z) : ixD (.tuple ds) (.int i) = .ok z := by
  show (match atI ds i with | some z => Rs.ok z | none => .bad) = _
  rw [h]
theorem q_ixL {ds : List PyData} {i : Int} {z : PyData} (h : atI ds i = some z) : ixD (.list ds) (.int i) = .ok z := by
  show (match atI ds i with | some z => Rs.ok z | none => .bad) = _
  rw [h]
theorem q_ixS {ds : List PyData} {i : Int} {z : PyData} (h : atI ds i = some z) : ixD (scrD ds) (.int i) = .ok z := by
  show (match atI ds i with | some z => Rs.ok z | none => .bad) = _
  rw [h]
theorem at_get {α : Type} {xs : List α} {i : Nat} {x : α} (h : xs[i]? = some x) : atI xs (i : Int) = some x := by
  have hi := (List.getElem?_eq_some_iff.mp h).1
  unfold atI ixN
  rw [if_pos (by omega), if_pos (by omega), Int.toNat_natCast]
  exact h
theorem at_int {α : Type} {xs : List α} {i : Int} {x : α} (h0 : 0 ≤ i) (h : xs[i.toNat]? = some x) : atI xs i = some x := by
  have := at_get h
  rw [show ((i.toNat : Nat) : Int) = i by omega] at this
  exact this
theorem rgOk0 {i : Int} (h0 : 0 ≤ i) (h1 : i ≤ 16777216) : rgOk 0 i = true := by
  unfold rgOk
  rw [decide_eq_true (by decide), decide_eq_true (by decide), decide_eq_true (by omega), decide_eq_true (by omega), decide_eq_true (by omega)]
  rfl
theorem rgD0 (i : Int) : rgD 0 i = (iota i).map PyData.int := by
  unfold rgD iota
  rw [Int.sub_zero, List.map_map]
  refine List.map_congr_left fun j _ => ?_
  show PyData.int (0 + (j : Int)) = PyData.int (j : Int)
  rw [Int.zero_add]
theorem cap_le {ds : List PyData} (h : ds.length ≤ lim) : cap (.ok ds) = .ok ds := if_pos h
/-! ### loops -/
/-- one turn -/
def turn (g : PyData → Ev → Rs Ev) (b : Ev → Rs Out) (d : PyData) (ρ : Ev) : Rs Out := okE (g d ρ) b
theorem for_inv {g : PyData → Ev → Rs Ev} {b : Ev → Rs Out} (P : Nat → Ev → Prop) : ∀ {ds : List PyData} {k : Nat} {ρ : Ev}, P k ρ → (∀ (i : Nat) d ρ, ds[i]? = some d → P (k + i) ρ → ∃ ρ', turn g b d ρ = .ok (.nx ρ') ∧ P (k + i + 1) ρ') → ∃ ρ', forGo g b ds ρ = .ok (.nx ρ') ∧ P (k + ds.length) ρ'
  | [], k, ρ, h0, hs => ⟨ρ, rfl, h0⟩
  | d :: ds, k, ρ, h0, hs => by
    obtain ⟨ρ1, e1, p1⟩ := hs 0 d ρ rfl h0
    obtain ⟨ρ2, e2, p2⟩ := for_inv P (ds := ds) (k := k + 1) (ρ := ρ1) p1 fun i d' ρ' h p => by
      have := hs (i + 1) d' ρ' h (by rw [show k + (i + 1) = k + 1 + i by omega]; exact p)
      rw [show k + (i + 1) + 1 = k + 1 + i + 1 by omega] at this
      exact this
    refine ⟨ρ2, ?_, by rw [show k + (d :: ds).length = k + 1 + ds.length by rw [List.length_cons]; omega]; exact p2⟩
    unfold turn at e1
    show okE (g d ρ) (fun ρ1 => (b ρ1).bind _) = _
    cases q : g d ρ with
    | bad => rw [q] at e1; cases e1
    | err c => rw [q] at e1; cases e1
    | ok ρ0 =>
      rw [q] at e1
      show (b ρ0).bind _ = _
      rw [show b ρ0 = .ok (.nx ρ1) from e1]
      exact e2
/-- it goes on, to what P says -/
def Stp (r : Rs Out) (P : Ev → Prop) : Prop := match r with
  | .ok (.nx ρ) => P ρ
  | _ => False
@[simp] theorem stp_nx (ρ : Ev) (P : Ev → Prop) : Stp (.ok (.nx ρ)) P = P ρ := rfl
theorem Stp.ex {r : Rs Out} {P : Ev → Prop} (h : Stp r P) : ∃ ρ, r = .ok (.nx ρ) ∧ P ρ := by
  unfold Stp at h
  split at h
  · exact ⟨_, rfl, h⟩
  · exact h.elim
@[simp] theorem z_turn (g : PyData → Ev → Rs Ev) (b : Ev → Rs Out) (d : PyData) (ρ : Ev) : turn g b d ρ = okE (g d ρ) b := rfl
/-- a for whose turns all go on -/
theorem for_all {g : PyData → Ev → Rs Ev} {b : Ev → Rs Out} {ds : List PyData} {ρ : Ev} (P : Nat → Ev → Prop) (h0 : P 0 ρ) (hs : ∀ (i : Nat) d ρ, ds[i]? = some d → P i ρ → Stp (turn g b d ρ) (P (i + 1))) : ∃ ρ', forGo g b ds ρ = .ok (.nx ρ') ∧ P ds.length ρ' := by
  obtain ⟨ρ', e, p⟩ := for_inv P (ds := ds) (k := 0) h0 fun i d ρ h p => by
    rw [Nat.zero_add] at p ⊢
    exact (hs i d ρ h p).ex
  rw [Nat.zero_add] at p
  exact ⟨ρ', e, p⟩
theorem for_eq {α : Type} {g : PyData → Ev → Rs Ev} {b : Ev → Rs Out} {ds : List PyData} {ρ : Ev} {K : Out → Rs α} {R : Rs α} (P : Nat → Ev → Prop) (h0 : P 0 ρ) (hs : ∀ (i : Nat) d ρ, ds[i]? = some d → P i ρ → Stp (turn g b d ρ) (P (i + 1))) (hk : ∀ ρ', P ds.length ρ' → K (.nx ρ') = R) : (forGo g b ds ρ).bind K = R := by
  obtain ⟨ρ', e, p⟩ := for_all P h0 hs
  rw [e]
  exact hk ρ' p
/-- a while of m turns -/
theorem while_all {c : Ev → Rs Bool} {b : Ev → Rs Out} (P : Nat → Ev → Prop) {m : Nat} (hs : ∀ i ρ, i < m → P i ρ → c ρ = .ok true ∧ Stp (b ρ) (P (i + 1))) (he : ∀ ρ, P m ρ → c ρ = .ok false) : ∀ {n i : Nat} {ρ : Ev}, i ≤ m → m < i + n → P i ρ → ∃ ρ', whileGo c b n ρ = .ok (.nx ρ') ∧ P m ρ'
  | 0, i, ρ, h1, h2, _ => by omega
  | n + 1, i, ρ, h1, h2, p => by
    show ∃ ρ', (c ρ).bind _ = _ ∧ _
    by_cases hi : i = m
    · subst hi
      rw [he ρ p]
      exact ⟨ρ, rfl, p⟩
    · obtain ⟨e1, st⟩ := hs i ρ (by omega) p
      obtain ⟨ρ1, e2, p1⟩ := st.ex
      rw [e1, bind_ok', if_pos rfl, e2]
      exact while_all P hs he (n := n) (i := i + 1) (by omega) (by omega) p1
theorem lc_map {bd : PyData → Rs (List PyData)} {h : PyData → PyData} : ∀ {ds : List PyData}, (∀ d ∈ ds, bd d = .ok [h d]) → lcAll bd ds = .ok (ds.map h)
  | [], _ => rfl
  | d :: ds, k => by
    show (bd d).bind _ = _
    rw [k d List.mem_cons_self, bind_ok', lc_map (ds := ds) fun x hx => k x (List.mem_cons_of_mem _ hx)]
    rfl
/-- over things of a type of its own -/
theorem lc_mapE {α β : Type} {enc : α → PyData} {out : β → PyData} {bd : PyData → Rs (List PyData)} {h : α → β} {xs : List α} (k : ∀ x ∈ xs, bd (enc x) = .ok [out (h x)]) : lcAll bd (xs.map enc) = .ok ((xs.map h).map out) := by
  induction xs with
  | nil => rfl
  | cons x xs ih =>
    show (bd (enc x)).bind _ = _
    rw [k x List.mem_cons_self, bind_ok', ih fun y hy => k y (List.mem_cons_of_mem _ hy)]
    rfl
theorem lc_flatE {α : Type} {enc : α → PyData} {bd : PyData → Rs (List PyData)} {h : α → List PyData} {xs : List α} (k : ∀ x ∈ xs, bd (enc x) = .ok (h x)) : lcAll bd (xs.map enc) = .ok (xs.flatMap h) := by
  induction xs with
  | nil => rfl
  | cons x xs ih =>
    show (bd (enc x)).bind _ = _
    rw [k x List.mem_cons_self, bind_ok', ih fun y hy => k y (List.mem_cons_of_mem _ hy)]
    rfl
noncomputable def F_how_many_of_tray : List PyData → Rs PyData := fn 5 (sSeq (sSet 2 (eCB max2D (aCons (eC (.int 0)) (aCons (eVar 1) aNil))))
      (sSeq (sSet 3 (eC (.int 1)))
      (sSeq (sFor (iRg (rg1D (eVar 0))) (gN 4)
      (sSet 3 (e2 mulD (eVar 3) (eVar 2))))
      (sRet (eVar 3)))))
noncomputable def F_how_many : List PyData → Rs PyData := fn 3 (sRet (eCB sumD (aCons (eL (lLc [2] (iItems (eVar 0)) (gN 2) tY (eCall F_how_many_of_tray (aCons (eVar 2) (aCons (eVar 1) aNil))))) aNil)))
noncomputable def F_rising_things : List PyData → Rs PyData := fn 6 (sSeq (sSet 2 (eL (aCons (eTup aNil) aNil)))
      (sSeq (sFor (iRg (rg1D (eVar 0))) (gN 3)
      (sSet 2 (eL (lLc2 [4, 5] [5] (iItems (eVar 2)) (gN 4) tY (iRg (rg1D (eVar 1))) (gN 5) tY (e2 addD (eVar 4) (eTup (aCons (eVar 5) aNil)))))))
      (sRet (eVar 2))))
noncomputable def F_all_fillings : List PyData → Rs PyData := fn 6 (sSeq (sIf (tB' (e2 gtD (eCall F_how_many (aCons (eVar 0) (aCons (eVar 1) aNil))) (eC (.int 2000))))
      (sRaise "TooMany")
      sNil)
      (sSeq (sSetO 2 aNil)
      (sSeq (sFor (iEnumD (eVar 0)) (gT 2 (gsC (gN 3) (gsC (gN 4) gsN)))
      (sFor (iItems (eCall F_rising_things (aCons (eVar 4) (aCons (eVar 1) aNil)))) (gN 5)
      (sMut 2 appM (aCons (eTup (aCons (eVar 3) (aCons (eVar 5) aNil))) aNil))))
      (sFrz 2 (sRet (eVar 2))))))
noncomputable def F_things_at : List PyData → Rs PyData := fn 6 (sSeq (sSetO 3 aNil)
      (sSeq (sFor (iRg (rg1D (eVar 0))) (gN 4)
      (sSeq (sAsg (eCB divmodD (aCons (eVar 2) (aCons (eVar 1) aNil))) (gT 2 (gsC (gN 2) (gsC (gN 5) gsN))))
      (sMut 3 appM (aCons (eVar 5) aNil))))
      (sRet (eCB tupleD (aCons (e1 revLD (eVarR 3)) aNil)))))
noncomputable def F_filling_at : List PyData → Rs PyData := fn 4 (sSeq (sSet 3 (eC (.int 0)))
      (sSeq (sWhile 100000 (tB' (e2 geD (eVar 2) (eCall F_how_many_of_tray (aCons (e2 ixD (eVar 0) (eVar 3)) (aCons (eVar 1) aNil)))))
      (sSeq (sSet 2 (e2 subD (eVar 2) (eCall F_how_many_of_tray (aCons (e2 ixD (eVar 0) (eVar 3)) (aCons (eVar 1) aNil)))))
      (sSet 3 (e2 addD (eVar 3) (eC (.int 1))))))
      (sRet (eTup (aCons (eVar 3) (aCons (eCall F_things_at (aCons (e2 ixD (eVar 0) (eVar 3)) (aCons (eVar 1) (aCons (eVar 2) aNil)))) aNil))))))
noncomputable def F_place_of : List PyData → Rs PyData := fn 7 (sSeq (sAsg (eVar 2) (gT 2 (gsC (gN 3) (gsC (gN 4) gsN))))
      (sSeq (sSet 5 (eC (.int 0)))
      (sSeq (sFor (iItems (eVar 4)) (gN 6)
      (sSet 5 (e2 addD (e2 mulD (eVar 5) (eVar 1)) (eVar 6))))
      (sRet (e2 addD (eCall F_how_many (aCons (eSl (eVar 0) eNoPart (ePart (eVar 3))) (aCons (eVar 1) aNil))) (eVar 5))))))
noncomputable def F_is_whole : List PyData → Rs PyData := fn 1 (sRet (eAnd (e1 (isiD "int") (eVar 0)) (eNot (e1 (isiD "bool") (eVar 0)))))
noncomputable def F_is_below : List PyData → Rs PyData := fn 2 (sRet (eAnd (eCall F_is_whole (aCons (eVar 0) aNil)) (eChain leD ltD (eC (.int 0)) (eVar 0) (eVar 1))))
noncomputable def F_is_crate : List PyData → Rs PyData := fn 2 (sSeq (sIf (tOr' (tNot' (tB' (e1 (isiD "tuple") (eVar 0)))) (tB' (e2 gtD (eCB lenD (aCons (eVar 0) aNil)) (eC (.int 60)))))
      (sRet (eC (.bool false)))
      sNil)
      (sRet (eCB allD (aCons (eL (lLc [1] (iItems (eVar 0)) (gN 1) tY (eCall F_is_below (aCons (eVar 1) (aCons (e2 addD (eC (.int 12)) (eC (.int 1))) aNil))))) aNil))))
noncomputable def F_bounded : List PyData → Rs PyData := fn 1 (sSeq (sIf (tNot' (tB' (eCall F_is_crate (aCons (eVar 0) aNil))))
      (sRaise "TooBig")
      sNil)
      (sRet (eVar 0)))
noncomputable def F_put : List PyData → Rs PyData := fn 6 (sSeq (sIf (tB' (e2 gtD (eCall F_how_many (aCons (eVar 0) (aCons (eCB lenD (aCons (eVar 1) aNil)) aNil))) (eC (.int 60))))
      (sRaise "TooBig")
      sNil)
      (sSeq (sSet 2 (eCall F_all_fillings (aCons (eVar 0) (aCons (eCB lenD (aCons (eVar 1) aNil)) aNil))))
      (sRet (eCall F_bounded (aCons (eCB tupleD (aCons (eL (lLc [3, 4] (iItems (eVar 2)) (gT 2 (gsC (gN 3) (gsC (gN 4) gsN))) tY (eCB sumD (aCons (eL (lLc [5] (iItems (eVar 4)) (gN 5) tY (e2 ixD (eVar 1) (eVar 5)))) aNil)))) aNil)) aNil)))))
noncomputable def F_packed : List PyData → Rs PyData := fn 10 (sSeq (sAsg (eVar 2) (gT 2 (gsC (gN 3) (gsC (gN 4) gsN))))
      (sSeq (sSet 5 (eCB tupleD (aCons (eL (lLc [7, 8] (iItems (eVar 4)) (gT 2 (gsC (gN 7) (gsC (gN 8) gsN))) tY (eVar 7))) aNil)))
      (sSeq (sSet 6 (eCall F_place_of (aCons (eVar 0) (aCons (eCB lenD (aCons (eVar 1) aNil)) (aCons (eTup (aCons (eVar 3) (aCons (eVar 5) aNil))) aNil)))))
      (sRet (eTup (aCons (eVar 6) (aCons (eCB tupleD (aCons (eL (lLc2 [7, 8, 9] [9] (iItems (eVar 4)) (gT 2 (gsC (gN 7) (gsC (gN 8) gsN))) tY (iItems (eVar 8)) (gN 9) tY (eVar 9))) aNil)) aNil)))))))
noncomputable def F_unpacked : List PyData → Rs PyData := fn 9 (sSeq (sAsg (eVar 2) (gT 2 (gsC (gN 3) (gsC (gN 4) gsN))))
      (sSeq (sAsg (eCall F_filling_at (aCons (eVar 0) (aCons (eCB lenD (aCons (eVar 1) aNil)) (aCons (eVar 3) aNil)))) (gT 2 (gsC (gN 5) (gsC (gN 6) gsN))))
      (sSeq (sSetO 7 aNil)
      (sSeq (sFor (iItems (eVar 6)) (gN 8)
      (sSeq (sMut 7 appM (aCons (eTup (aCons (eVar 8) (aCons (eSl (eVar 4) eNoPart (ePart (e2 ixD (eVar 1) (eVar 8)))) aNil))) aNil))
      (sSet 4 (eSl (eVar 4) (ePart (e2 ixD (eVar 1) (eVar 8))) eNoPart))))
      (sRet (eTup (aCons (eVar 5) (aCons (eCB tupleD (aCons (eVarR 7) aNil)) aNil))))))))
noncomputable def F_law_cell : List PyData → Rs PyData := fn 3 (sSeq (sIf (tB' (e2 ltD (eVar 1) (eCB lenD (aCons (eVar 0) aNil))))
      (sRet (e2 modD (e2 ixD (eVar 0) (eVar 1)) (e2 powD (eC (.int 10)) (eC (.int 18)))))
      sNil)
      (sSeq (sSet 2 (e2 addD (eC (.int 17)) (e2 mulD (e2 mulD (eC (.int 7)) (eVar 1)) (eVar 1))))
      (sSeq (sIf (tB' (e2 gtD (eCB lenD (aCons (eVar 0) aNil)) (eC (.int 0))))
      (sSet 2 (e2 addD (eVar 2) (e2 mulD (e2 modD (e2 ixD (eVar 0) (e2 modD (eVar 1) (eCB lenD (aCons (eVar 0) aNil)))) (eC (.int 1000003))) (e2 addD (eVar 1) (eC (.int 5))))))
      sNil)
      (sRet (e2 divD (e2 modD (e2 mulD (eVar 2) (eC (.int 48271))) (eC (.int 2147483647))) (eC (.int 3)))))))
noncomputable def F_law_crate : List PyData → Rs PyData := fn 5 (sSeq (sSetO 3 aNil)
      (sSeq (sFor (iRg (rg1D (e2 modD (eVar 0) (e2 addD (eVar 1) (eC (.int 1)))))) (gN 4)
      (sMut 3 appM (aCons (e2 modD (e2 divD (eVar 0) (e2 addD (eC (.int 7)) (e2 mulD (e2 mulD (eC (.int 5)) (eVar 4)) (e2 addD (eVar 4) (eC (.int 1)))))) (e2 addD (eVar 2) (eC (.int 1)))) aNil)))
      (sRet (eCB tupleD (aCons (eVarR 3) aNil)))))
noncomputable def F_plain : List PyData → Rs PyData := fn 2 (sRet (eTup (aCons (eVar 1) (aCons (eTupR (rg1D (e2 ixD (eVar 0) (eVar 1)))) aNil))))
noncomputable def F_is_pair : List PyData → Rs PyData := fn 1 (sRet (eAnd (e1 (isiD "tuple") (eVar 0)) (e2 eqD (eCB lenD (aCons (eVar 0) aNil)) (eC (.int 2)))))
noncomputable def F_fits : List PyData → Rs PyData := fn 4 (sSeq (sIf (tNot' (tB' (eCall F_is_pair (aCons (eVar 1) aNil))))
      (sRet (eC (.bool false)))
      sNil)
      (sSeq (sAsg (eVar 1) (gT 2 (gsC (gN 2) (gsC (gN 3) gsN))))
      (sSeq (sIf (tNot' (tB' (eCall F_is_below (aCons (eVar 2) (aCons (eCB lenD (aCons (eVar 0) aNil)) aNil)))))
      (sRet (eC (.bool false)))
      sNil)
      (sRet (eAnd (e1 (isiD "tuple") (eVar 3)) (e2 eqD (eCB lenD (aCons (eVar 3) aNil)) (e2 ixD (eVar 0) (eVar 2))))))))
noncomputable def F_turned : List PyData → Rs PyData := fn 7 (sSeq (sAsg (eVar 1) (gT 2 (gsC (gN 2) (gsC (gN 3) gsN))))
      (sSeq (sAsg (e2 ixD (eVar 0) (eVar 2)) (gT 2 (gsC (gN 4) (gsC (gN 5) gsN))))
      (sRet (eTup (aCons (eVar 4) (aCons (eCB tupleD (aCons (eL (lLc [6] (iItems (eVar 5)) (gN 6) tY (e2 ixD (eVar 3) (eVar 6)))) aNil)) aNil))))))
noncomputable def F_idle : List PyData → Rs PyData := fn 2 (sRet (eCB tupleD (aCons (eL (lLc [1] (iRg (rg1D (eCB lenD (aCons (eVar 0) aNil)))) (gN 1) tY (eCall F_plain (aCons (eVar 0) (aCons (eVar 1) aNil))))) aNil)))
noncomputable def F_after : List PyData → Rs PyData := fn 3 (sRet (eCB tupleD (aCons (eL (lLc [2] (iItems (eVar 0)) (gN 2) tY (eCall F_turned (aCons (eVar 1) (aCons (eVar 2) aNil))))) aNil)))
noncomputable def F_put_way : List PyData → Rs PyData := fn 14 (sSeq (sAsg (eVar 0) (gT 2 (gsC (gN 4) (gsC (gN 5) gsN))))
      (sSeq (sAsg (eVar 1) (gT 2 (gsC (gN 6) (gsC (gN 7) gsN))))
      (sSeq (sSetO 8 aNil)
      (sSeq (sFor (iItems (eCall F_idle (aCons (eCall F_put (aCons (eVar 4) (aCons (eVar 6) aNil))) aNil))) (gN 9)
      (sSeq (sAsg (eCall F_turned (aCons (eVar 2) (aCons (eCall F_unpacked (aCons (eVar 4) (aCons (eVar 6) (aCons (eVar 9) aNil)))) aNil))) (gT 2 (gsC (gN 10) (gsC (gN 11) gsN))))
      (sSeq (sSet 12 (eCB tupleD (aCons (eL (lLc [13] (iItems (eVar 11)) (gN 13) tY (eCall F_turned (aCons (eVar 3) (aCons (eVar 13) aNil))))) aNil)))
      (sMut 8 appM (aCons (eCall F_packed (aCons (eVar 5) (aCons (eVar 7) (aCons (eTup (aCons (eVar 10) (aCons (eVar 12) aNil))) aNil)))) aNil)))))
      (sRet (eCB tupleD (aCons (eVarR 8) aNil)))))))
noncomputable def F_law_way : List PyData → Rs PyData := fn 10 (sSeq (sSetO 3 aNil)
      (sSeq (sFor (iEnumD (eVar 1)) (gT 2 (gsC (gN 4) (gsC (gN 5) gsN)))
      (sSeq (sSet 6 (e2 divD (eVar 0) (e2 addD (eC (.int 3)) (e2 mulD (eC (.int 11)) (eVar 4)))))
      (sSeq (sSet 7 (eL (lLc [8] (iRg (rg1D (eCB lenD (aCons (eVar 2) aNil)))) (gN 8) (tOr' (tB' (e2 gtD (eVar 5) (eC (.int 0)))) (tB' (e2 eqD (e2 ixD (eVar 2) (eVar 8)) (eC (.int 0))))) (eVar 8))))
      (sSeq (sIf (tB' (e2 eqD (eVar 7) (eL aNil)))
      (sRet (eC .none))
      sNil)
      (sSeq (sSet 8 (e2 ixD (eVar 7) (e2 modD (eVar 6) (eCB lenD (aCons (eVar 7) aNil)))))
      (sMut 3 appM (aCons (eTup (aCons (eVar 8) (aCons (eCB tupleD (aCons (eL (lLc [9] (iRg (rg1D (e2 ixD (eVar 2) (eVar 8)))) (gN 9) tY (e2 modD (e2 divD (eVar 6) (e2 addD (eC (.int 5)) (e2 mulD (eC (.int 7)) (eVar 9)))) (eVar 5)))) aNil)) aNil))) aNil)))))))
      (sRet (eCB tupleD (aCons (eVarR 3) aNil)))))
noncomputable def F_law_turned : List PyData → Rs PyData := fn 5 (sSeq (sAsg (e2 ixD (eVar 0) (e2 ixD (eVar 1) (eC (.int 0)))) (gT 2 (gsC (gN 2) (gsC (gN 3) gsN))))
      (sRet (eTup (aCons (eVar 2) (aCons (eCB tupleD (aCons (eL (lLc [4] (iItems (eVar 3)) (gN 4) tY (e2 ixD (e2 ixD (eVar 1) (eC (.int 1))) (eVar 4)))) aNil)) aNil)))))
noncomputable def F_unpacked_twice : List PyData → Rs PyData := fn 7 (sSeq (sAsg (eCall F_unpacked (aCons (eVar 0) (aCons (eCall F_put (aCons (eVar 1) (aCons (eVar 2) aNil))) (aCons (eVar 3) aNil)))) (gT 2 (gsC (gN 4) (gsC (gN 5) gsN))))
      (sRet (eTup (aCons (eVar 4) (aCons (eCB tupleD (aCons (eL (lLc [6] (iItems (eVar 5)) (gN 6) tY (eCall F_unpacked (aCons (eVar 1) (aCons (eVar 2) (aCons (eVar 6) aNil)))))) aNil)) aNil)))))
noncomputable def F_regrouped : List PyData → Rs PyData := fn 7 (sSeq (sSet 3 (eCall F_put (aCons (eVar 0) (aCons (eVar 1) aNil))))
      (sSeq (sSetO 4 aNil)
      (sSeq (sFor (iItems (eCall F_idle (aCons (eCall F_put (aCons (eVar 0) (aCons (eCall F_put (aCons (eVar 1) (aCons (eVar 2) aNil))) aNil))) aNil))) (gN 5)
      (sSeq (sSet 6 (eCall F_unpacked_twice (aCons (eVar 0) (aCons (eVar 1) (aCons (eVar 2) (aCons (eVar 5) aNil))))))
      (sMut 4 appM (aCons (eCall F_packed (aCons (eVar 3) (aCons (eVar 2) (aCons (eCall F_packed (aCons (eVar 0) (aCons (eVar 1) (aCons (eVar 6) aNil)))) aNil)))) aNil))))
      (sRet (eCB tupleD (aCons (eVarR 4) aNil))))))
abbrev cr (ws : List Int) : PyData := .tuple (ws.map PyData.int)
theorem pow_lt {n : Int} {i m : Nat} (n0 : 0 ≤ n) (n1 : n < 2 ^ m) : (n ^ i).natAbs < 2 ^ (m * i + 1) := by
  obtain ⟨k, rfl⟩ := Int.eq_ofNat_of_zero_le n0
  have e : (k : Int) ^ i = ((k ^ i : Nat) : Int) := (Int.natCast_pow k i).symm
  have hk : k < 2 ^ m := by
    have : (2 : Int) ^ m = ((2 ^ m : Nat) : Int) := (Int.natCast_pow 2 m).symm
    omega
  rw [e, Int.natAbs_natCast, Nat.pow_succ, Nat.pow_mul]
  have := Nat.pow_le_pow_left (Nat.le_of_lt hk) i
  have := Nat.two_pow_pos (m * i)
  rw [Nat.pow_mul] at this
  omega
theorem lim_eq : lim = 10000000 := rfl
theorem how_many_of_tray {w n : Int} (w0 : 0 ≤ w) (w1 : w ≤ 60) (n0 : 0 ≤ n) (n1 : n < 2 ^ 40) : F_how_many_of_tray [.int w, .int n] = .ok (.int (n ^ w.toNat)) := by
  have hm : (if n > 0 then n else 0) = n := by split <;> omega
  have hn : wide n = true := wide_small (by omega) (by omega)
  simp [F_how_many_of_tray, rgOk0 w0 (by omega), rgD0, hm]
  obtain ⟨ρ', e, x, rfl⟩ := for_all (g := gN 4) (b := sSet 3 (e2 mulD (eVar 3) (eVar 2))) (ds := (iota w).map PyData.int) (ρ := [some (false, .int w), some (false, .int n), some (false, .int n), some (false, .int 1), none])
    (fun i ρ => ∃ x, ρ = [some (false, .int w), some (false, .int n), some (false, .int n), some (false, .int (n ^ i)), x]) ⟨none, by simp⟩ (fun i d ρ hd ⟨x, hρ⟩ => by
      subst hρ
      have hi : i < (iota w).length := by have := (List.getElem?_eq_some_iff.mp hd).1; simpa using this
      rw [iota_len] at hi
      have hw : wide (n ^ i) = true := wide_of (pow_lt (m := 40) n0 n1) (by omega) (by omega)
      simp [q_mul hw hn, Int.pow_succ])
  rw [e]
  simp [iota_len]
theorem how_many {ws : List Int} {n : Int} (hw : ∀ x ∈ ws, 0 ≤ x ∧ x ≤ 60) (hl : ws.length ≤ 10000) (n0 : 0 ≤ n) (n1 : n < 2 ^ 40) : F_how_many [cr ws, .int n] = .ok (.int (cnt n ws)) := by
  have h := lc_mapE (enc := PyData.int) (out := PyData.int) (h := fun x => n ^ x.toNat) (xs := ws) (bd := bd1 (gN 2) tY (eCall F_how_many_of_tray (aCons (eVar 2) (aCons (eVar 1) aNil))) [some (false, cr ws), some (false, .int n), none]) fun x hx => by
    simp [how_many_of_tray (hw x hx).1 (hw x hx).2 n0 n1]
  simp [F_how_many]
  simp at h
  rw [h, cap_le (by simp [lim_eq]; omega)]
  have := q_sum (ws.map fun x => n ^ x.toNat)
  simp at this ⊢
  rw [this]
  rfl
/-! ### slices of numbers -/
theorem cut_map {α : Type} (f : α → PyData) (xs : List α) (lo hi : Option Int) : cutD (xs.map f) lo hi = ((xs.drop (HT.sIx xs.length 0 lo)).take (HT.sIx xs.length xs.length hi - HT.sIx xs.length 0 lo)).map f := by
  unfold cutD
  rw [List.length_map, List.map_take, List.map_drop]
theorem sIx_in {n : Nat} {d : Nat} {i : Int} (h0 : 0 ≤ i) (h1 : i ≤ (n : Int)) : HT.sIx n d (some i) = i.toNat := by
  show (if i < 0 then (i + (n : Int)).toNat else min i.toNat n) = i.toNat
  rw [if_neg (by omega)]
  omega
theorem cut_take {xs : List PyData} {i : Int} (h0 : 0 ≤ i) (h1 : i ≤ (xs.length : Int)) : cutD xs none (some i) = xs.take i.toNat := by
  unfold cutD
  rw [sIx_in h0 h1, HT.sIx_none, List.drop_zero, Nat.sub_zero]
theorem cut_drop {xs : List PyData} {i : Int} (h0 : 0 ≤ i) (h1 : i ≤ (xs.length : Int)) : cutD xs (some i) none = xs.drop i.toNat := by
  unfold cutD
  rw [sIx_in h0 h1, HT.sIx_none]
  exact List.take_of_length_le (by rw [List.length_drop]; omega)
/-! ### place_of -/
theorem place_of {us row : List Int} {n s : Int} (hu : ∀ x ∈ us, 0 ≤ x ∧ x ≤ 60) (hl : us.length ≤ 10000) (n0 : 0 ≤ n) (n1 : n < 2 ^ 40) (s0 : 0 ≤ s) (s1 : s ≤ (us.length : Int)) (hr : row.length ≤ 60) (hb : ∀ x ∈ row, 0 ≤ x ∧ x < 2 ^ 40) : F_place_of [cr us, .int n, .tuple [.int s, cr row]] = .ok (.int (fnum n us (s, row))) := by
  have hn : wide n = true := wide_small (by omega) (by omega)
  have dg : ∀ r : List Int, (∀ x ∈ r, 0 ≤ x ∧ x < 2 ^ 40) → 0 ≤ dig n r ∧ dig n r < 2 ^ (41 * r.length) := fun r => by
    induction r with
    | nil => intro _; exact ⟨Int.le_refl 0, by show (0 : Int) < 2 ^ 0; decide⟩
    | cons t r ih =>
      intro h
      obtain ⟨i0, i1⟩ := ih fun x hx => h x (List.mem_cons_of_mem _ hx)
      obtain ⟨t0, t1⟩ := h t List.mem_cons_self
      have hp : 0 ≤ n ^ r.length := pow_nn n0
      have hq : n ^ r.length ≤ 2 ^ (40 * r.length) := by
        obtain ⟨k, rfl⟩ := Int.eq_ofNat_of_zero_le n0
        have : k ^ r.length ≤ (2 ^ 40) ^ r.length := Nat.pow_le_pow_left (by omega) _
        rw [← Nat.pow_mul] at this
        have a1 : ((k ^ r.length : Nat) : Int) = (k : Int) ^ r.length := Int.natCast_pow k _
        have a2 : ((2 ^ (40 * r.length) : Nat) : Int) = 2 ^ (40 * r.length) := Int.natCast_pow 2 _
        omega
      refine ⟨Int.add_nonneg (Int.mul_nonneg t0 hp) i0, ?_⟩
      show t * n ^ r.length + dig n r < _
      have h1 : t * n ^ r.length ≤ (2 ^ 40 - 1) * 2 ^ (40 * r.length) := Int.mul_le_mul (by omega) hq hp (by decide)
      have e : (2 : Int) ^ (41 * (t :: r).length) = 2 ^ 41 * 2 ^ (41 * r.length) := by
        rw [List.length_cons, show 41 * (r.length + 1) = 41 + 41 * r.length by omega, Int.pow_add]
      have h2 : (2 : Int) ^ (40 * r.length) ≤ 2 ^ (41 * r.length) := by
        have : (2 : Nat) ^ (40 * r.length) ≤ 2 ^ (41 * r.length) := Nat.pow_le_pow_right (by decide) (by omega)
        have a1 : ((2 ^ (40 * r.length) : Nat) : Int) = 2 ^ (40 * r.length) := Int.natCast_pow 2 _
        have a2 : ((2 ^ (41 * r.length) : Nat) : Int) = 2 ^ (41 * r.length) := Int.natCast_pow 2 _
        omega
      rw [e]
      omega
  obtain ⟨ρ', e, x, rfl⟩ := for_all (g := gN 6) (b := sSet 5 (e2 addD (e2 mulD (eVar 5) (eVar 1)) (eVar 6))) (ds := row.map PyData.int) (ρ := [some (false, cr us), some (false, .int n), some (false, .tuple [.int s, cr row]), some (false, .int s), some (false, cr row), some (false, .int 0), none])
    (fun i ρ => ∃ x, ρ = [some (false, cr us), some (false, .int n), some (false, .tuple [.int s, cr row]), some (false, .int s), some (false, cr row), some (false, .int (dig n (row.take i))), x]) ⟨none, by simp [dig]⟩ (fun i d ρ hd ⟨x, hρ⟩ => by
      subst hρ
      rw [List.getElem?_map] at hd
      cases q : row[i]? with
      | none => rw [q] at hd; cases hd
      | some t =>
        rw [q] at hd
        cases hd
        have hb' := dg (row.take i) fun x hx => hb x (List.mem_of_mem_take hx)
        have hw : wide (dig n (row.take i)) = true := wide_of (n := 41 * 60 + 1) (by
          have h3 : (2 : Int) ^ (41 * (row.take i).length) ≤ 2 ^ (41 * 60) := by
            have : (2 : Nat) ^ (41 * (row.take i).length) ≤ 2 ^ (41 * 60) := Nat.pow_le_pow_right (by decide) (by rw [List.length_take]; omega)
            have a1 : ((2 ^ (41 * (row.take i).length) : Nat) : Int) = 2 ^ (41 * (row.take i).length) := Int.natCast_pow 2 _
            have a2 : ((2 ^ (41 * 60) : Nat) : Int) = 2 ^ (41 * 60) := Int.natCast_pow 2 _
            omega
          have a3 : ((2 ^ (41 * 60 + 1) : Nat) : Int) = 2 * 2 ^ (41 * 60) := by
            rw [Nat.pow_succ, Int.natCast_mul, Int.natCast_pow, Int.mul_comm]
            rfl
          have a4 : (0 : Int) < 2 ^ (41 * 60) := Int.pow_pos (by decide)
          omega) (by decide)
        have hds : dig n (row.take (i + 1)) = dig n (row.take i) * n + t := by
          rw [List.take_add_one, q]
          exact dig_snoc n t _
        simp [q_mul hw hn, hds])
  simp [F_place_of]
  simp at e
  rw [e]
  have hc : cutD (us.map PyData.int) none (some s) = (us.take s.toNat).map PyData.int := by
    rw [cut_take s0 (by rw [List.length_map]; exact s1), List.map_take]
  have hm := how_many (ws := us.take s.toNat) (n := n) (fun x hx => hu x (List.mem_of_mem_take hx)) (by rw [List.length_take]; omega) n0 n1
  simp [-List.map_take, hc, hm, fnum]
/-! ### things_at, filling_at -/
theorem dig_take_snoc {n : Int} {r : List Int} {j : Nat} {t : Int} (h : r[j]? = some t) : dig n (r.take (j + 1)) = dig n (r.take j) * n + t := by
  rw [List.take_add_one, h]
  exact dig_snoc n t _
theorem things_at {w n p : Int} {r : List Int} (w1 : w ≤ 1000) (hr : (r.length : Int) = w) (hb : Below n r) (hp : dig n r = p) (n1 : n < 2 ^ 40) : F_things_at [.int w, .int n, .int p] = .ok (cr r) := by
  subst hr hp
  obtain ⟨ρ', e, x, y, rfl⟩ := for_all (g := gN 4) (b := sSeq (sAsg (eCB divmodD (aCons (eVar 2) (aCons (eVar 1) aNil))) (gT 2 (gsC (gN 2) (gsC (gN 5) gsN)))) (sMut 3 appM (aCons (eVar 5) aNil))) (ds := (iota (r.length : Int)).map PyData.int) (ρ := [some (false, .int r.length), some (false, .int n), some (false, .int (dig n r)), some (true, .list []), none, none])
    (fun i ρ => ∃ x y, ρ = [some (false, .int r.length), some (false, .int n), some (false, .int (dig n (r.take (r.length - i)))), some (true, .list ((r.drop (r.length - i)).reverse.map PyData.int)), x, y]) ⟨none, none, by simp⟩ (fun i d ρ hd ⟨x, y, hρ⟩ => by
      subst hρ
      have hi : i < (iota (r.length : Int)).length := by have := (List.getElem?_eq_some_iff.mp hd).1; simpa using this
      rw [iota_len, Int.toNat_natCast] at hi
      obtain ⟨t, ht⟩ : ∃ t, r[r.length - (i + 1)]? = some t := ⟨_, List.getElem?_eq_getElem (by omega)⟩
      have hbt := hb t (List.mem_of_getElem? ht)
      have e1 : dig n (r.take (r.length - i)) = dig n (r.take (r.length - (i + 1))) * n + t := by
        rw [show r.length - i = r.length - (i + 1) + 1 by omega]
        exact dig_take_snoc ht
      have hw : wide n = true := wide_small (by omega) (by omega)
      have d1 : dig n (r.take (r.length - i)) / n = dig n (r.take (r.length - (i + 1))) := by
        rw [e1, Int.add_comm, Int.add_mul_ediv_right _ _ (by omega), Int.ediv_eq_zero_of_lt hbt.1 hbt.2, Int.zero_add]
      have d2 : dig n (r.take (r.length - i)) % n = t := by
        rw [e1, Int.add_comm, Int.add_mul_emod_self_right, Int.emod_eq_of_lt hbt.1 hbt.2]
      have e2 : r.drop (r.length - (i + 1)) = t :: r.drop (r.length - i) := by
        rw [List.drop_eq_getElem_cons (by omega)]
        rw [List.getElem?_eq_getElem (by omega)] at ht
        rw [Option.some.inj ht, show r.length - (i + 1) + 1 = r.length - i by omega]
      simp [-List.map_take, -List.map_drop, -List.map_reverse, q_divmod (show 0 < n by omega) hw, d1, d2, q_app (show ((r.drop (r.length - i)).reverse.map PyData.int).length < lim by simp [lim_eq]; omega), e2])
  simp [F_things_at, rgOk0 (show (0 : Int) ≤ r.length by omega) (by omega), rgD0]
  simp at e
  rw [e]
  simp [iota_len]
theorem filling_at {us : List Int} {n k : Int} {q : Int × List Int} (hu : ∀ x ∈ us, 0 ≤ x ∧ x ≤ 60) (hl : us.length ≤ 10000) (n0 : 0 ≤ n) (n1 : n < 2 ^ 40) (hq : FillOk n us q) (hk : fnum n us q = k) : F_filling_at [cr us, .int n, .int k] = .ok (dPair q) := by
  obtain ⟨q0, q1, q2, q3⟩ := hq
  have ix : ∀ (i : Nat), i < us.length → ∃ x, us[i]? = some x ∧ 0 ≤ x ∧ x ≤ 60 ∧ ixD (cr us) (.int (i : Int)) = .ok (.int x) ∧ F_how_many_of_tray [.int x, .int n] = .ok (.int (n ^ x.toNat)) := fun i hi => by
    have g : us[i]? = some us[i] := List.getElem?_eq_getElem hi
    have hx := hu us[i] (List.getElem_mem hi)
    refine ⟨us[i], g, hx.1, hx.2, q_ixT (at_get (by rw [List.getElem?_map, g]; rfl)), how_many_of_tray hx.1 hx.2 n0 n1⟩
  obtain ⟨ρ', e, rfl⟩ := while_all (c := tB' (e2 geD (eVar 2) (eCall F_how_many_of_tray (aCons (e2 ixD (eVar 0) (eVar 3)) (aCons (eVar 1) aNil))))) (b := sSeq (sSet 2 (e2 subD (eVar 2) (eCall F_how_many_of_tray (aCons (e2 ixD (eVar 0) (eVar 3)) (aCons (eVar 1) aNil))))) (sSet 3 (e2 addD (eVar 3) (eC (.int 1)))))
    (fun i ρ => ρ = [some (false, cr us), some (false, .int n), some (false, .int (k - cnt n (us.take i))), some (false, .int (i : Int))]) (m := q.1.toNat) (fun i ρ hi hρ => by
      subst hρ
      obtain ⟨x, g, x0, x1, h1, h2⟩ := ix i (by omega)
      have hc := cnt_take (n := n) g
      have hs := cnt_take_mono n0 us (show i + 1 ≤ q.1.toNat by omega)
      have hd := (dig_bound q3).1
      have hk' : n ^ x.toNat ≤ k - cnt n (us.take i) := by
        rw [← hk]
        show n ^ x.toNat ≤ cnt n (us.take q.1.toNat) + dig n q.2 - _
        omega
      refine ⟨by simp [h1, h2]; exact hk', ?_⟩
      simp [h1, h2, hc]
      omega) (fun ρ hρ => by
      subst hρ
      obtain ⟨x, g, x0, x1, h1, h2⟩ := ix q.1.toNat (by omega)
      rw [q2] at g
      cases g
      have hd := (dig_bound q3).2
      simp [-Int.ofNat_toNat, h1, h2]
      rw [← hk]
      show cnt n (us.take q.1.toNat) + dig n q.2 - _ < _
      omega) (n := 100000) (i := 0) (ρ := [some (false, cr us), some (false, .int n), some (false, .int k), some (false, .int 0)]) (Nat.zero_le _) (by omega) (by simp [cnt])
  obtain ⟨x, g, x0, x1, h1, h2⟩ := ix q.1.toNat (by omega)
  rw [q2] at g
  cases g
  have ht := things_at (w := (q.2.length : Int)) (n := n) (p := k - cnt n (us.take q.1.toNat)) (r := q.2) (by omega) rfl q3 (by rw [← hk]; show _ = cnt n _ + dig n q.2 - _; omega) n1
  simp [F_filling_at]
  rw [e]
  have e0 : ((q.1.toNat : Nat) : Int) = q.1 := by omega
  rw [e0] at h1
  simp only [e0]
  simp [h1, ht, dPair]
/-! ### rising_things, all_fillings -/
theorem pow_le_max {n i w : Nat} (h : i ≤ w) : n ^ i ≤ n ^ w + 1 := by
  cases n with
  | zero =>
    cases i with
    | zero => rw [Nat.pow_zero]; exact Nat.le_add_left 1 _
    | succ i => rw [Nat.zero_pow (by omega)]; exact Nat.zero_le _
  | succ n => exact Nat.le_succ_of_le (Nat.pow_le_pow_right (by omega) h)
theorem rising_things {w : Int} {n : Nat} (w0 : 0 ≤ w) (w1 : w ≤ 60) (n1 : n ≤ 100000) (hc : n ^ w.toNat ≤ 100000) : F_rising_things [.int w, .int (n : Int)] = .ok (.list ((rows n w.toNat).map cr)) := by
  obtain ⟨ρ', e, x, rfl⟩ := for_all (g := gN 3) (b := sSet 2 (eL (lLc2 [4, 5] [5] (iItems (eVar 2)) (gN 4) tY (iRg (rg1D (eVar 1))) (gN 5) tY (e2 addD (eVar 4) (eTup (aCons (eVar 5) aNil)))))) (ds := (iota w).map PyData.int) (ρ := [some (false, .int w), some (false, .int (n : Int)), some (false, .list [.tuple []]), none, none, none])
    (fun i ρ => ∃ x, ρ = [some (false, .int w), some (false, .int (n : Int)), some (false, .list ((rows n i).map cr)), x, none, none]) ⟨none, by simp [rows]⟩ (fun i d ρ hd ⟨x, hρ⟩ => by
      subst hρ
      have hi : i < (iota w).length := by have := (List.getElem?_eq_some_iff.mp hd).1; simpa using this
      rw [iota_len] at hi
      have hr : rgOk 0 (n : Int) = true := rgOk0 (by omega) (by omega)
      have inner : ∀ r : List Int, r.length = i → ∀ ρ0 : Ev, lcAll (bd1 (gN 5) tY (e2 addD (eVar 4) (eTup (aCons (eVar 5) aNil))) [some (false, .int w), some (false, .int (n : Int)), some (false, .list ((rows n i).map cr)), some (false, d), some (false, cr r), none]) ((iota (n : Int)).map PyData.int) = .ok ((List.range n).map fun (t : Nat) => cr (r ++ [(t : Int)])) := fun r hr' ρ0 => by
        have := lc_mapE (enc := PyData.int) (out := fun x : List Int => cr x) (h := fun x => r ++ [x]) (xs := iota (n : Int)) (bd := bd1 (gN 5) tY (e2 addD (eVar 4) (eTup (aCons (eVar 5) aNil))) [some (false, .int w), some (false, .int (n : Int)), some (false, .list ((rows n i).map cr)), some (false, d), some (false, cr r), none]) fun x hx => by
          simp [q_addT (show (r.map PyData.int).length + [PyData.int x].length ≤ lim by simp [lim_eq]; omega)]
        rw [this]
        unfold iota
        simp [List.map_map, Function.comp_def]
      have outer := lc_flatE (enc := fun r : List Int => cr r) (h := fun r => (List.range n).map fun (t : Nat) => cr (r ++ [(t : Int)])) (xs := rows n i) (bd := bd2 [5] (gN 4) tY (iRg (rg1D (eVar 1))) (gN 5) tY (e2 addD (eVar 4) (eTup (aCons (eVar 5) aNil))) [some (false, .int w), some (false, .int (n : Int)), some (false, .list ((rows n i).map cr)), some (false, d), none, none]) fun r hr' => by
        have := inner r (rows_mem hr').1 []
        simp [hr, rgD0] at this ⊢
        exact this
      have hlen : ((rows n i).flatMap fun r => (List.range n).map fun (t : Nat) => cr (r ++ [(t : Int)])).length ≤ lim := by
        have e1 : ((rows n i).flatMap fun r => (List.range n).map fun (t : Nat) => cr (r ++ [(t : Int)])) = (rows n (i + 1)).map cr := by
          show _ = List.map cr ((rows n i).flatMap fun r => (List.range n).map fun (t : Nat) => r ++ [(t : Int)])
          rw [List.map_flatMap]
          simp [List.map_map, Function.comp_def]
        rw [e1, List.length_map, rows_len]
        have := pow_le_max (n := n) (show i + 1 ≤ w.toNat by omega)
        rw [lim_eq]
        omega
      simp
      try simp at outer
      rw [outer]
      rw [cap_le hlen]
      simp [rows, List.map_flatMap, List.map_map, Function.comp_def])
  simp [F_rising_things, rgOk0 w0 (show w ≤ 16777216 by omega), rgD0]
  simp at e
  rw [e]
  simp [iota_len]
theorem enum_get {α : Type} {f : α → PyData} {xs : List α} {i : Nat} {d : PyData} (h : (enumG 0 (xs.map f))[i]? = some d) : ∃ x, xs[i]? = some x ∧ d = .tuple [.int (i : Int), f x] := by
  obtain ⟨e, h1, h2⟩ := enumG_get h
  rw [List.getElem?_map] at h1
  cases q : xs[i]? with
  | none => rw [q] at h1; cases h1
  | some x =>
    rw [q] at h1
    cases h1
    exact ⟨x, rfl, by rw [h2, Nat.zero_add]⟩
theorem map_get' {α : Type} {f : α → PyData} {xs : List α} {i : Nat} {d : PyData} (h : (xs.map f)[i]? = some d) : ∃ x, xs[i]? = some x ∧ d = f x := by
  rw [List.getElem?_map] at h
  cases q : xs[i]? with
  | none => rw [q] at h; cases h
  | some x =>
    rw [q] at h
    cases h
    exact ⟨x, rfl, rfl⟩
theorem take_snoc {α : Type} {xs : List α} {i : Nat} {x : α} (h : xs[i]? = some x) : xs.take (i + 1) = xs.take i ++ [x] := by
  rw [List.take_add_one, h]
  rfl
theorem all_fillings {ws : List Int} {n : Nat} (hw : ∀ x ∈ ws, 0 ≤ x ∧ x ≤ 60) (hl : ws.length ≤ 10000) (n1 : n ≤ 100000) (hc : cnt (n : Int) ws ≤ 2000) : F_all_fillings [cr ws, .int (n : Int)] = .ok (.list ((fills n ws ws.length).map dPair)) := by
  have hm := how_many (ws := ws) (n := (n : Int)) hw hl (by omega) (by omega)
  have fl : ∀ i, i ≤ ws.length → (fills n ws i).length ≤ 2000 := fun i hi => by
    have h1 := fills_len (n := n) (ws := ws) hi
    have h2 := cnt_take_le (n := (n : Int)) (by omega) ws i
    omega
  obtain ⟨ρ', e, x, y, z, rfl⟩ := for_all (g := gT 2 (gsC (gN 3) (gsC (gN 4) gsN))) (b := sFor (iItems (eCall F_rising_things (aCons (eVar 4) (aCons (eVar 1) aNil)))) (gN 5) (sMut 2 appM (aCons (eTup (aCons (eVar 3) (aCons (eVar 5) aNil))) aNil))) (ds := enumG 0 (ws.map PyData.int)) (ρ := [some (false, cr ws), some (false, .int (n : Int)), some (true, .list []), none, none, none])
    (fun i ρ => ∃ x y z, ρ = [some (false, cr ws), some (false, .int (n : Int)), some (true, .list ((fills n ws i).map dPair)), x, y, z]) ⟨none, none, none, by simp [fills]⟩ (fun i d ρ hd ⟨x, y, z, hρ⟩ => by
      subst hρ
      obtain ⟨k, hk, rfl⟩ := enum_get hd
      have hi : i < ws.length := (List.getElem?_eq_some_iff.mp hk).1
      obtain ⟨k0, k1⟩ := hw k (List.mem_of_getElem? hk)
      have hp : n ^ k.toNat ≤ 2000 := by
        have h1 := cnt_term (n := (n : Int)) (by omega) hk
        have h2 : ((n ^ k.toNat : Nat) : Int) = (n : Int) ^ k.toNat := Int.natCast_pow n _
        omega
      have rt := rising_things (w := k) (n := n) k0 k1 n1 (by omega)
      have f1 := fills_succ n ws i
      have o1 : one n ws i = (rows n k.toNat).map fun r => ((i : Int), r) := by
        unfold one
        rw [List.getD_eq_getElem?_getD, hk]
        rfl
      have l1 := fl (i + 1) (by omega)
      rw [f1, o1, List.length_append, List.length_map] at l1
      obtain ⟨ρ', e, z', rfl⟩ := for_all (g := gN 5) (b := sMut 2 appM (aCons (eTup (aCons (eVar 3) (aCons (eVar 5) aNil))) aNil)) (ds := (rows n k.toNat).map cr) (ρ := [some (false, cr ws), some (false, .int (n : Int)), some (true, .list ((fills n ws i).map dPair)), some (false, .int (i : Int)), some (false, .int k), z])
        (fun j ρ => ∃ z, ρ = [some (false, cr ws), some (false, .int (n : Int)), some (true, .list ((fills n ws i ++ ((rows n k.toNat).take j).map fun r => ((i : Int), r)).map dPair)), some (false, .int (i : Int)), some (false, .int k), z]) ⟨z, by simp⟩ (fun j d ρ hd ⟨z, hρ⟩ => by
          subst hρ
          obtain ⟨r, hr, rfl⟩ := map_get' hd
          rw [take_snoc hr]
          simp [-List.map_take, -List.map_append, q_app (show (List.map dPair (fills n ws i ++ ((rows n k.toNat).take j).map fun r => ((i : Int), r))).length < lim by simp [lim_eq]; omega)]
          simp [dPair])
      simp [rt, e]
      rw [f1, o1]
      simp [List.map_map, Function.comp_def])
  simp [F_all_fillings, hm, show ¬ 2000 < cnt (n : Int) ws by omega]
  simp [enumG_len] at e
  rw [e]
  simp
/-! ### what a crate is -/
theorem is_whole_int (i : Int) : F_is_whole [.int i] = .ok (.bool true) := by
  simp [F_is_whole, isi_int (d := .int i) (fun _ h => by cases h), isi_bool (d := .int i) (fun _ h => by cases h), intD, boolD]
theorem is_below_int (i b : Int) : F_is_below [.int i, .int b] = .ok (.bool (decide (0 ≤ i) && decide (i < b))) := by
  simp [F_is_below, is_whole_int]
  by_cases h : 0 ≤ i
  · simp [h]
  · simp [h]
theorem is_crate_cr {ws : List Int} (hl : ws.length ≤ 100000) : F_is_crate [cr ws] = .ok (.bool (crateD (cr ws))) := by
  have h := lc_mapE (enc := PyData.int) (out := PyData.bool) (h := fun x => decide (0 ≤ x) && decide (x < 13)) (xs := ws) (bd := bd1 (gN 1) tY (eCall F_is_below (aCons (eVar 1) (aCons (e2 addD (eC (.int 12)) (eC (.int 1))) aNil))) [some (false, cr ws), none]) fun x hx => by
    simp [is_below_int]
  have hd : crateD (cr ws) = (decide (ws.length ≤ 60) && (ws.map fun x => decide (0 ≤ x) && decide (x < 13)).all id) := by
    show (decide ((ws.map PyData.int).length ≤ 60) && (ws.map PyData.int).all (wellD 13)) = _
    rw [List.length_map, List.all_map, List.all_map]
    rfl
  rw [hd]
  simp [F_is_crate, isi_tuple (d := cr ws) (fun _ h => by cases h), tupD]
  by_cases hx : (60 : Int) < (ws.length : Int)
  · simp [hx, show ¬ ws.length ≤ 60 by omega]
  · rw [if_neg hx]
    try simp [-List.map_map] at h
    simp [-List.map_map, h]
    rw [cap_le (by simp [lim_eq]; omega)]
    have := q_all (ws.map fun x => decide (0 ≤ x) && decide (x < 13))
    try simp [-List.map_map, -List.all_map] at this
    simp [-List.map_map, -List.all_map, this, show ws.length ≤ 60 by omega]
    rw [List.all_map]
    rfl
theorem bounded_cr {ws : List Int} (hl : ws.length ≤ 100000) : F_bounded [cr ws] = if crateD (cr ws) = true then .ok (cr ws) else .err "TooBig" := by
  simp [F_bounded, is_crate_cr hl]
  by_cases h : crateD (cr ws) = true
  · simp [h]
  · simp [h]
/-! ### crates put in one another -/
/-- the wells of a row -/
def rowW (ws : List Int) (r : List Int) : Int := (r.map (pick ws)).sum
def putC (us ws : List Int) : List Int := (fills ws.length us us.length).map fun p => rowW ws p.2
theorem ix_cr {ws : List Int} {i : Int} (h0 : 0 ≤ i) (h1 : i < (ws.length : Int)) : ixD (cr ws) (.int i) = .ok (.int (pick ws i)) := q_ixT (at_int h0 (by rw [List.getElem?_map, pick_in h0 h1]; rfl))
theorem put_cr {us ws : List Int} (hu : ∀ x ∈ us, 0 ≤ x ∧ x ≤ 60) (hl : us.length ≤ 10000) (hl2 : ws.length ≤ 10000) : F_put [cr us, cr ws] = if cnt (ws.length : Int) us ≤ 60 then (if crateD (cr (putC us ws)) = true then .ok (cr (putC us ws)) else .err "TooBig") else .err "TooBig" := by
  have hm := how_many (ws := us) (n := (ws.length : Int)) hu hl (by omega) (by omega)
  by_cases hc : cnt (ws.length : Int) us ≤ 60
  · have af := all_fillings (ws := us) (n := ws.length) hu hl (by omega) (by omega)
    have lf := fills_len (n := ws.length) (ws := us) (Nat.le_refl us.length)
    rw [List.take_length] at lf
    have h := lc_mapE (enc := dPair) (out := PyData.int) (h := fun p : Int × List Int => rowW ws p.2) (xs := fills ws.length us us.length) (bd := bd1 (gT 2 (gsC (gN 3) (gsC (gN 4) gsN))) tY (eCB sumD (aCons (eL (lLc [5] (iItems (eVar 4)) (gN 5) tY (e2 ixD (eVar 1) (eVar 5)))) aNil)) [some (false, cr us), some (false, cr ws), some (false, .list ((fills ws.length us us.length).map dPair)), none, none, none]) fun p hp => by
      obtain ⟨j, hj, hp'⟩ := List.mem_flatMap.mp hp
      obtain ⟨r, hr, rfl⟩ := List.mem_map.mp hp'
      obtain ⟨r1, r2⟩ := rows_mem hr
      have hjl := List.mem_range.mp hj
      have hrl : r.length ≤ 60 := by
        rw [r1, List.getD_eq_getElem?_getD, List.getElem?_eq_getElem hjl]
        have := hu _ (List.getElem_mem hjl)
        show (us[j]).toNat ≤ 60
        omega
      have h2 := lc_mapE (enc := PyData.int) (out := PyData.int) (h := pick ws) (xs := r) (bd := bd1 (gN 5) tY (e2 ixD (eVar 1) (eVar 5)) [some (false, cr us), some (false, cr ws), some (false, .list ((fills ws.length us us.length).map dPair)), some (false, .int (j : Int)), some (false, cr r), none]) fun x hx => by
        simp [ix_cr (r2 x hx).1 (r2 x hx).2]
      try simp [-List.map_map] at h2
      simp [-List.map_map, dPair, h2]
      rw [cap_le (by simp [lim_eq]; omega)]
      have := q_sum (r.map (pick ws))
      try simp [-List.map_map] at this
      simp [-List.map_map, this, rowW]
    have hb := bounded_cr (ws := putC us ws) (by unfold putC; rw [List.length_map]; omega)
    try simp [-List.map_map] at h
    simp [-List.map_map, F_put, hm, show ¬ 60 < cnt (ws.length : Int) us by omega, af, h]
    rw [cap_le (by simp [lim_eq]; omega)]
    have e1 : PyData.tuple (List.map PyData.int (List.map (fun p : Int × List Int => rowW ws p.2) (fills ws.length us us.length))) = cr (putC us ws) := rfl
    simp [-List.map_map, e1, hb, hc]
    by_cases hd : crateD (cr (putC us ws)) = true
    · simp [hd]
    · simp [hd]
  · simp [F_put, hm, show 60 < cnt (ws.length : Int) us by omega, hc]
/-! ### fillings of anything -/
abbrev fil (p : Int × List PyData) : PyData := .tuple [.int p.1, .tuple p.2]
theorem flat_lenL {α β : Type} (f : α → List β) (l : List α) : (l.flatMap f).length = (l.map fun x => (f x).length).sum := by
  rw [List.length_flatMap]
/-- packed -/
theorem packed {us ws : List Int} {s : Int} {fs : List (Int × List PyData)} (hu : ∀ x ∈ us, 0 ≤ x ∧ x ≤ 60) (hl : us.length ≤ 10000) (hl2 : ws.length ≤ 10000) (s0 : 0 ≤ s) (s1 : s ≤ (us.length : Int)) (hf : ∀ p ∈ fs, 0 ≤ p.1 ∧ p.1 < 2 ^ 40) (hn : fs.length ≤ 60) (ht : (fs.flatMap fun p => p.2).length ≤ 100000) :
    F_packed [cr us, cr ws, .tuple [.int s, .tuple (fs.map fil)]] = .ok (fil (fnum (ws.length : Int) us (s, fs.map Prod.fst), fs.flatMap fun p => p.2)) := by
  have h1 := fun e9 e10 : Option (Bool × PyData) => lc_mapE (enc := fil) (out := PyData.int) (h := fun p : Int × List PyData => p.1) (xs := fs) (bd := bd1 (gT 2 (gsC (gN 7) (gsC (gN 8) gsN))) tY (eVar 7) [some (false, cr us), some (false, cr ws), some (false, .tuple [.int s, .tuple (fs.map fil)]), some (false, .int s), some (false, .tuple (fs.map fil)), e9, e10, none, none, none]) fun p hp => by simp
  have hp := place_of (us := us) (row := fs.map Prod.fst) (n := (ws.length : Int)) (s := s) hu hl (by omega) (by omega) s0 s1 (by rw [List.length_map]; exact hn) (fun x hx => by
    obtain ⟨p, hp, rfl⟩ := List.mem_map.mp hx
    exact hf p hp)
  have h2 := fun e9 e10 : Option (Bool × PyData) => lc_flatE (enc := fil) (h := fun p : Int × List PyData => p.2) (xs := fs) (bd := bd2 [9] (gT 2 (gsC (gN 7) (gsC (gN 8) gsN))) tY (iItems (eVar 8)) (gN 9) tY (eVar 9) [some (false, cr us), some (false, cr ws), some (false, .tuple [.int s, .tuple (fs.map fil)]), some (false, .int s), some (false, .tuple (fs.map fil)), e9, e10, none, none, none]) fun p hp => by
    have h3 := lc_map (h := fun x : PyData => x) (ds := p.2) (bd := bd1 (gN 9) tY (eVar 9) [some (false, cr us), some (false, cr ws), some (false, .tuple [.int s, .tuple (fs.map fil)]), some (false, .int s), some (false, .tuple (fs.map fil)), e9, e10, some (false, .int p.1), some (false, .tuple p.2), none]) fun x hx => by simp
    try simp at h3
    simp [h3]
  try simp [-List.map_map] at h1
  try simp at h2
  simp [-List.map_map, F_packed, h1]
  rw [cap_le (by simp [lim_eq]; omega)]
  try simp [-List.map_map] at hp
  simp [-List.map_map, hp, h2]
  rw [cap_le (by rw [lim_eq]; omega)]
  simp
/-! ### unpacked -/
def splitW (ws : List Int) : List Int → List PyData → List (Int × List PyData)
  | [], _ => []
  | t :: r, ds => (t, ds.take (pick ws t).toNat) :: splitW ws r (ds.drop (pick ws t).toNat)
theorem rowW_nil (ws : List Int) : rowW ws [] = 0 := rfl
theorem rowW_cons (ws : List Int) (t : Int) (r : List Int) : rowW ws (t :: r) = pick ws t + rowW ws r := by
  unfold rowW
  rw [List.map_cons, List.sum_cons]
theorem rowW_app (ws : List Int) (a b : List Int) : rowW ws (a ++ b) = rowW ws a + rowW ws b := by
  unfold rowW
  rw [List.map_append, List.sum_append]
theorem pick_nn {ws : List Int} (hw : ∀ x ∈ ws, 0 ≤ x) (i : Int) : 0 ≤ pick ws i := by
  unfold pick
  rw [List.getD_eq_getElem?_getD]
  cases h : ws[i.toNat]? with
  | none => exact Int.le_refl 0
  | some x => exact hw x (List.mem_of_getElem? h)
theorem rowW_nn {ws : List Int} (hw : ∀ x ∈ ws, 0 ≤ x) : ∀ r : List Int, 0 ≤ rowW ws r
  | [] => Int.le_refl 0
  | t :: r => by
    rw [rowW_cons]
    have := rowW_nn hw r
    have := pick_nn hw t
    omega
theorem split_len (ws : List Int) : ∀ (r : List Int) (ds : List PyData), (splitW ws r ds).length = r.length
  | [], _ => rfl
  | t :: r, ds => by rw [splitW, List.length_cons, List.length_cons, split_len ws r]
theorem split_snoc {ws : List Int} (hw : ∀ x ∈ ws, 0 ≤ x) (t : Int) : ∀ (r : List Int) (ds : List PyData), splitW ws (r ++ [t]) ds = splitW ws r ds ++ [(t, (ds.drop (rowW ws r).toNat).take (pick ws t).toNat)]
  | [], ds => rfl
  | u :: r, ds => by
    rw [List.cons_append, splitW, splitW, split_snoc hw t r, List.cons_append, List.drop_drop, rowW_cons]
    have h1 := pick_nn hw u
    have h2 := rowW_nn hw r
    rw [show (pick ws u).toNat + (rowW ws r).toNat = (pick ws u + rowW ws r).toNat by omega]
theorem unpacked {us ws : List Int} {k : Int} {q : Int × List Int} {ds : List PyData} (hu : ∀ x ∈ us, 0 ≤ x ∧ x ≤ 60) (hl : us.length ≤ 10000) (hw : ∀ x ∈ ws, 0 ≤ x ∧ x ≤ 60) (hl2 : ws.length ≤ 10000) (hq : FillOk (ws.length : Int) us q) (hk : fnum (ws.length : Int) us q = k) (hd : rowW ws q.2 ≤ (ds.length : Int)) (hdl : ds.length ≤ 100000) :
    F_unpacked [cr us, cr ws, fil (k, ds)] = .ok (.tuple [.int q.1, .tuple ((splitW ws q.2 ds).map fil)]) := by
  have fa := filling_at hu hl (by omega) (by omega) hq hk
  have hw0 : ∀ x ∈ ws, 0 ≤ x := fun x hx => (hw x hx).1
  have hql : q.2.length ≤ 60 := by
    have := hu _ (List.mem_of_getElem? hq.2.2.1)
    omega
  obtain ⟨ρ', e, x, rfl⟩ := for_all (g := gN 8) (b := sSeq (sMut 7 appM (aCons (eTup (aCons (eVar 8) (aCons (eSl (eVar 4) eNoPart (ePart (e2 ixD (eVar 1) (eVar 8)))) aNil))) aNil)) (sSet 4 (eSl (eVar 4) (ePart (e2 ixD (eVar 1) (eVar 8))) eNoPart))) (ds := q.2.map PyData.int) (ρ := [some (false, cr us), some (false, cr ws), some (false, fil (k, ds)), some (false, .int k), some (false, .tuple ds), some (false, .int q.1), some (false, cr q.2), some (true, .list []), none])
    (fun j ρ => ∃ x, ρ = [some (false, cr us), some (false, cr ws), some (false, fil (k, ds)), some (false, .int k), some (false, .tuple (ds.drop (rowW ws (q.2.take j)).toNat)), some (false, .int q.1), some (false, cr q.2), some (true, .list ((splitW ws (q.2.take j) ds).map fil)), x]) ⟨none, by simp [rowW, splitW]⟩ (fun j d ρ hd' ⟨x, hρ⟩ => by
      subst hρ
      obtain ⟨t, ht, rfl⟩ := map_get' hd'
      have hb := hq.2.2.2 t (List.mem_of_getElem? ht)
      have hp := ix_cr (ws := ws) hb.1 hb.2
      have p0 := pick_nn hw0 t
      have r0 := rowW_nn hw0 (q.2.take j)
      have hr : rowW ws (q.2.take j) + pick ws t + rowW ws (q.2.drop (j + 1)) = rowW ws q.2 := by
        have e1 : q.2 = q.2.take j ++ (t :: q.2.drop (j + 1)) := by
          obtain ⟨hj, hj'⟩ := List.getElem?_eq_some_iff.mp ht
          rw [← hj', ← List.drop_eq_getElem_cons hj, List.take_append_drop]
        conv => rhs; rw [e1]
        rw [rowW_app, rowW_cons]
        omega
      have r1 := rowW_nn hw0 (q.2.drop (j + 1))
      have c1 : cutD (ds.drop (rowW ws (q.2.take j)).toNat) none (some (pick ws t)) = (ds.drop (rowW ws (q.2.take j)).toNat).take (pick ws t).toNat := cut_take p0 (by rw [List.length_drop]; omega)
      have c2 : cutD (ds.drop (rowW ws (q.2.take j)).toNat) (some (pick ws t)) none = (ds.drop (rowW ws (q.2.take j)).toNat).drop (pick ws t).toNat := cut_drop p0 (by rw [List.length_drop]; omega)
      have hj : j < q.2.length := (List.getElem?_eq_some_iff.mp ht).1
      have sl := split_len ws (q.2.take j) ds
      rw [take_snoc ht, split_snoc hw0, rowW_app, rowW_cons, rowW_nil]
      simp [-List.map_take, -List.map_drop, -List.map_append, hp, c1, c2, q_app (show (List.map fil (splitW ws (q.2.take j) ds)).length < lim by rw [List.length_map, sl, List.length_take, lim_eq]; omega)]
      rw [show (rowW ws (q.2.take j)).toNat + (pick ws t).toNat = (rowW ws (q.2.take j) + pick ws t).toNat by omega]
      simp)
  have e0 : dPair q = .tuple [.int q.1, cr q.2] := rfl
  simp [F_unpacked, fa, e0]
  try simp [-List.map_take] at e
  rw [e]
  simp
/-! ### what the laws draw -/
theorem law_cell {ns : List Int} {k : Int} (hl : ns.length ≤ 1000) (k0 : 0 ≤ k) (k1 : k ≤ 100000) : ∃ c, F_law_cell [scrD (ns.map PyData.int), .int k] = .ok (.int c) ∧ 0 ≤ c ∧ c < 1000000000000000000 := by
  have hp : powD (.int 10) (.int 18) = .ok (.int 1000000000000000000) := q_pow (by decide) (by decide) (by decide)
  by_cases hk : k < (ns.length : Int)
  · obtain ⟨x, hx⟩ : ∃ x, ns[k.toNat]? = some x := ⟨_, List.getElem?_eq_getElem (by omega)⟩
    have hi : ixD (scrD (ns.map PyData.int)) (.int k) = .ok (.int x) := q_ixS (at_int k0 (by rw [List.getElem?_map, hx]; rfl))
    have h18 := q_mod (i := x) (j := 1000000000000000000) (by decide)
    refine ⟨x % 1000000000000000000, ?_, by omega, by omega⟩
    simp [F_law_cell, hk, hi, hp, h18]
  · have m1 : mulD (.int 7) (.int k) = .ok (.int (7 * k)) := q_mul (wide_small (by decide) (by decide)) (wide_small (by omega) (by omega))
    have kk : 0 ≤ 7 * k * k ∧ 7 * k * k ≤ 7 * 100000 * 100000 := ⟨Int.mul_nonneg (by omega) k0, Int.mul_le_mul (by omega) k1 k0 (by decide)⟩
    have m2 : mulD (.int (7 * k)) (.int k) = .ok (.int (7 * k * k)) := q_mul (wide_small (by omega) (by omega)) (wide_small (by omega) (by omega))
    have fin : ∀ near : Int, 0 ≤ near → near < 2 ^ 100 → mulD (.int near) (.int 48271) = .ok (.int (near * 48271)) ∧ modD (.int (near * 48271)) (.int 2147483647) = .ok (.int (near * 48271 % 2147483647)) ∧ divD (.int (near * 48271 % 2147483647)) (.int 3) = .ok (.int (near * 48271 % 2147483647 / 3)) := fun near n0 n1 =>
      ⟨q_mul (wide_small (by omega) (by omega)) (wide_small (by decide) (by decide)), q_mod (by decide), q_div (by decide) (wide_small (by decide) (by decide))⟩
    by_cases h0 : 0 < (ns.length : Int)
    · have hm : 0 ≤ k % (ns.length : Int) ∧ k % (ns.length : Int) < (ns.length : Int) := ⟨Int.emod_nonneg _ (by omega), Int.emod_lt_of_pos _ h0⟩
      obtain ⟨x, hx⟩ : ∃ x, ns[(k % (ns.length : Int)).toNat]? = some x := ⟨_, List.getElem?_eq_getElem (by omega)⟩
      have hi : ixD (scrD (ns.map PyData.int)) (.int (k % (ns.length : Int))) = .ok (.int x) := q_ixS (at_int hm.1 (by rw [List.getElem?_map, hx]; rfl))
      have hx1 : 0 ≤ x % 1000003 ∧ x % 1000003 < 1000003 := ⟨Int.emod_nonneg _ (by decide), Int.emod_lt_of_pos _ (by decide)⟩
      have pr : 0 ≤ x % 1000003 * (k + 5) ∧ x % 1000003 * (k + 5) ≤ 1000003 * 100005 := ⟨Int.mul_nonneg hx1.1 (by omega), Int.mul_le_mul (by omega) (by omega) (by omega) (by decide)⟩
      have m3 : mulD (.int (x % 1000003)) (.int (k + 5)) = .ok (.int (x % 1000003 * (k + 5))) := q_mul (wide_small (by omega) (by omega)) (wide_small (by omega) (by omega))
      obtain ⟨a1, a2, a3⟩ := fin (17 + 7 * k * k + x % 1000003 * (k + 5)) (by omega) (by omega)
      have m4 := q_mod (i := x) (j := 1000003) (by decide)
      have h0' : 0 < ns.length := by omega
      refine ⟨(17 + 7 * k * k + x % 1000003 * (k + 5)) * 48271 % 2147483647 / 3, ?_, by omega, by omega⟩
      simp [F_law_cell, hk, m1, m2, h0, h0', q_mod h0, hi, m4, m3, a1, a2, a3]
    · obtain ⟨a1, a2, a3⟩ := fin (17 + 7 * k * k) (by omega) (by omega)
      have h0' : ¬ 0 < ns.length := by omega
      refine ⟨(17 + 7 * k * k) * 48271 % 2147483647 / 3, ?_, by omega, by omega⟩
      simp [F_law_cell, hk, m1, m2, h0, h0', a1, a2, a3]
theorem law_crate {c t w : Int} (c0 : 0 ≤ c) (t0 : 0 ≤ t) (t1 : t ≤ 10000) (w0 : 0 ≤ w) (w1 : w ≤ 10000) : ∃ ws : List Int, F_law_crate [.int c, .int t, .int w] = .ok (cr ws) ∧ (ws.length : Int) ≤ t ∧ ∀ x ∈ ws, 0 ≤ x ∧ x ≤ w := by
  have m0 : 0 ≤ c % (t + 1) ∧ c % (t + 1) < t + 1 := ⟨Int.emod_nonneg _ (by omega), Int.emod_lt_of_pos _ (by omega)⟩
  obtain ⟨ρ', e, ws, x, h1, h2, rfl⟩ := for_all (g := gN 4) (b := sMut 3 appM (aCons (e2 modD (e2 divD (eVar 0) (e2 addD (eC (.int 7)) (e2 mulD (e2 mulD (eC (.int 5)) (eVar 4)) (e2 addD (eVar 4) (eC (.int 1)))))) (e2 addD (eVar 2) (eC (.int 1)))) aNil)) (ds := (iota (c % (t + 1))).map PyData.int) (ρ := [some (false, .int c), some (false, .int t), some (false, .int w), some (true, .list []), none])
    (fun i ρ => ∃ (ws : List Int) (x : Option (Bool × PyData)), ws.length = i ∧ (∀ x ∈ ws, 0 ≤ x ∧ x ≤ w) ∧ ρ = [some (false, .int c), some (false, .int t), some (false, .int w), some (true, .list (ws.map PyData.int)), x]) ⟨[], none, rfl, (fun x hx => by cases hx), by simp⟩ (fun i d ρ hd ⟨ws, x, h1, h2, hρ⟩ => by
      subst hρ
      obtain ⟨k, hk, rfl⟩ := map_get' hd
      obtain ⟨kb0, kb1⟩ := iota_below _ k (List.mem_of_getElem? hk)
      have hi : i < (iota (c % (t + 1))).length := (List.getElem?_eq_some_iff.mp hk).1
      rw [iota_len] at hi
      have a1 : mulD (.int 5) (.int k) = .ok (.int (5 * k)) := q_mul (wide_small (by decide) (by decide)) (wide_small (by omega) (by omega))
      have a2 : mulD (.int (5 * k)) (.int (k + 1)) = .ok (.int (5 * k * (k + 1))) := q_mul (wide_small (by omega) (by omega)) (wide_small (by omega) (by omega))
      have b1 : 0 ≤ 5 * k * (k + 1) ∧ 5 * k * (k + 1) ≤ 5 * 10000 * 10001 := ⟨Int.mul_nonneg (by omega) (by omega), Int.mul_le_mul (by omega) (by omega) (by omega) (by decide)⟩
      have a3 := q_div (i := c) (j := 7 + 5 * k * (k + 1)) (by omega) (wide_small (by omega) (by omega))
      have a4 := q_mod (i := c / (7 + 5 * k * (k + 1))) (j := w + 1) (by omega)
      simp [a1, a2, a3, a4, q_app (show (ws.map PyData.int).length < lim by rw [List.length_map, lim_eq]; omega)]
      refine ⟨ws ++ [c / (7 + 5 * k * (k + 1)) % (w + 1)], by simp [h1], fun y hy => ?_, by simp⟩
      rcases List.mem_append.mp hy with hy | hy
      · exact h2 y hy
      · rw [List.mem_singleton.mp hy]
        have := Int.emod_lt_of_pos (c / (7 + 5 * k * (k + 1))) (show 0 < w + 1 by omega)
        have := Int.emod_nonneg (c / (7 + 5 * k * (k + 1))) (show w + 1 ≠ 0 by omega)
        omega)
  refine ⟨ws, ?_, ?_, h2⟩
  · simp [F_law_crate, q_mod (show 0 < t + 1 by omega), rgOk0 m0.1 (show c % (t + 1) ≤ 16777216 by omega), rgD0]
    rw [e]
    simp
  · rw [List.length_map, iota_len] at h1
    omega
/-! ### things that are equal to themselves -/
def Gd (n : Nat) (d : PyData) : Prop := Flat n d ∧ PyData.eqv d d = true
theorem gd_all {n : Nat} : ∀ {ds : List PyData}, (∀ d ∈ ds, Gd n d) → FlatL n ds ∧ PyData.eqvAll ds ds = true
  | [], _ => ⟨flatL_nil, by simp [PyData.eqvAll]⟩
  | d :: ds, h => by
    obtain ⟨h1, h2⟩ := gd_all (ds := ds) fun x hx => h x (List.mem_cons_of_mem _ hx)
    obtain ⟨h3, h4⟩ := h d List.mem_cons_self
    exact ⟨flatL_cons h3 h1, by simp [PyData.eqvAll, h2, h4]⟩
theorem gd_tup {n : Nat} {ds : List PyData} (h : ∀ d ∈ ds, Gd n d) : Gd (n + 1) (.tuple ds) := by
  obtain ⟨h1, h2⟩ := gd_all h
  exact ⟨flat_tup h1, by simp [PyData.eqv, h2]⟩
theorem gd_lst {n : Nat} {ds : List PyData} (h : ∀ d ∈ ds, Gd n d) : Gd (n + 1) (.list ds) := by
  obtain ⟨h1, h2⟩ := gd_all h
  exact ⟨flat_lst h1, by simp [PyData.eqv, h2]⟩
theorem gd_int {n : Nat} (i : Int) : Gd n (.int i) := ⟨flat_int i, by simp [PyData.eqv]⟩
theorem gd_str {n : Nat} {x : Str} (h : PyData.strOk x = true) : Gd n (.str x) := ⟨flat_str h, by simp [PyData.eqv]⟩
theorem Gd.mono {n m : Nat} {d : PyData} (h : Gd n d) (k : n ≤ m) : Gd m d := ⟨h.1.mono k, h.2⟩
theorem Gd.sh {n : Nat} {d : PyData} (h : Gd n d) (k : n ≤ 64 := by decide) : SeqAt.shaped d = true := h.1.shaped k
theorem gd_two {n : Nat} {a b : PyData} (h : Gd n a) (k : Gd n b) : Gd (n + 1) (.tuple [a, b]) := gd_tup fun d hd => by
  rcases List.mem_cons.mp hd with rfl | hd
  · exact h
  · rw [List.mem_singleton.mp hd]
    exact k
theorem gd_ints {n : Nat} (ws : List Int) : Gd (n + 1) (cr ws) := gd_tup fun d hd => by
  obtain ⟨i, _, rfl⟩ := List.mem_map.mp hd
  exact gd_int i
/-- the same datum twice -/
theorem ne_same {n : Nat} {d : PyData} (h : Gd n d) (k : n ≤ 64) : neD d d = .ok (.bool false) := by
  rw [q_ne (h.1.shaped k) (h.1.shaped k), h.2]
  rfl
/-! ### plain, idle -/
theorem plain_cr {ws : List Int} {i : Nat} {x : Int} (g : ws[i]? = some x) (x0 : 0 ≤ x) (x1 : x ≤ 10000) : F_plain [cr ws, .int (i : Int)] = .ok (dPair ((i : Int), iota x)) := by
  have hi : ixD (cr ws) (.int (i : Int)) = .ok (.int x) := q_ixT (at_get (by rw [List.getElem?_map, g]; rfl))
  simp [F_plain, hi, rgOk0 x0 (show x ≤ 16777216 by omega), rgD0, dPair]
theorem idle_cr {ws : List Int} (hw : ∀ x ∈ ws, 0 ≤ x ∧ x ≤ 10000) (hl : ws.length ≤ 10000) : F_idle [cr ws] = .ok (dWay (idleW ws)) := by
  have h := lc_mapE (enc := PyData.int) (out := dPair) (h := fun x : Int => plainF ws x.toNat) (xs := iota (ws.length : Int)) (bd := bd1 (gN 1) tY (eCall F_plain (aCons (eVar 0) (aCons (eVar 1) aNil))) [some (false, cr ws), none]) fun x hx => by
    obtain ⟨x0, x1⟩ := iota_below _ x hx
    have g : ws[x.toNat]? = some ws[x.toNat] := List.getElem?_eq_getElem (by omega)
    have hb := hw _ (List.mem_of_getElem? g)
    have := plain_cr g hb.1 hb.2
    rw [show ((x.toNat : Nat) : Int) = x by omega] at this
    simp [this]
    rw [plainF_get g, show ((x.toNat : Nat) : Int) = x by omega]
  have e : (iota (ws.length : Int)).map (fun x : Int => plainF ws x.toNat) = idleW ws := by
    unfold iota idleW
    rw [List.map_map, Int.toNat_natCast]
    refine List.map_congr_left fun i _ => ?_
    show plainF ws ((i : Int)).toNat = _
    rw [Int.toNat_natCast]
  rw [e] at h
  simp [F_idle, rgOk0 (show (0 : Int) ≤ (ws.length : Int) by omega) (show (ws.length : Int) ≤ 16777216 by omega), rgD0]
  try simp at h
  rw [h, cap_le (by rw [List.length_map, idle_len, lim_eq]; omega)]
  simp [dWay]
/-! ### turned, after -/
def pickD (ds : List PyData) (y : Int) : PyData := ds.getD y.toNat .none
theorem pickD_ix {ds : List PyData} {y : Int} (h0 : 0 ≤ y) (h1 : y < (ds.length : Int)) : ixD (.tuple ds) (.int y) = .ok (pickD ds y) := by
  refine q_ixT (at_int h0 ?_)
  unfold pickD
  rw [List.getD_eq_getElem?_getD, List.getElem?_eq_getElem (by omega)]
  rfl
theorem ix_way {wy : List (Int × List Int)} {s : Int} {p : Int × List Int} (s0 : 0 ≤ s) (g : wy[s.toNat]? = some p) : ixD (dWay wy) (.int s) = .ok (dPair p) := q_ixT (at_int s0 (by rw [List.getElem?_map, g]; rfl))
theorem turned_any {wy : List (Int × List Int)} {s : Int} {ds : List PyData} {p : Int × List Int} (s0 : 0 ≤ s) (g : wy[s.toNat]? = some p) (hb : Below (ds.length : Int) p.2) (hl : p.2.length ≤ 10000) : F_turned [dWay wy, fil (s, ds)] = .ok (fil (p.1, p.2.map (pickD ds))) := by
  have h := lc_mapE (enc := PyData.int) (out := fun d : PyData => d) (h := pickD ds) (xs := p.2) (bd := bd1 (gN 6) tY (e2 ixD (eVar 3) (eVar 6)) [some (false, dWay wy), some (false, fil (s, ds)), some (false, .int s), some (false, .tuple ds), some (false, .int p.1), some (false, cr p.2), none]) fun x hx => by
    simp [pickD_ix (hb x hx).1 (hb x hx).2]
  have hi := ix_way s0 g
  simp [F_turned, hi, dPair]
  try simp at h
  rw [h, cap_le (by simp [lim_eq]; omega)]
  simp
theorem law_turned_any {wy : List (Int × List Int)} {s : Int} {ds : List PyData} {p : Int × List Int} (s0 : 0 ≤ s) (g : wy[s.toNat]? = some p) (hb : Below (ds.length : Int) p.2) (hl : p.2.length ≤ 10000) : F_law_turned [dWay wy, fil (s, ds)] = .ok (fil (p.1, p.2.map (pickD ds))) := by
  have i0 : ixD (fil (s, ds)) (.int 0) = .ok (.int s) := q_ixT (at_get (i := 0) rfl)
  have i1 : ixD (fil (s, ds)) (.int 1) = .ok (.tuple ds) := q_ixT (at_get (i := 1) rfl)
  have h := lc_mapE (enc := PyData.int) (out := fun d : PyData => d) (h := pickD ds) (xs := p.2) (bd := bd1 (gN 4) tY (e2 ixD (e2 ixD (eVar 1) (eC (.int 1))) (eVar 4)) [some (false, dWay wy), some (false, fil (s, ds)), some (false, .int p.1), some (false, cr p.2), none]) fun x hx => by
    simp [i1, pickD_ix (hb x hx).1 (hb x hx).2]
  have hi := ix_way s0 g
  simp [F_law_turned, i0, hi, dPair]
  try simp at h
  rw [h, cap_le (by simp [lim_eq]; omega)]
  simp
theorem pickD_ints {r ys : List Int} (h : Below (r.length : Int) ys) : ys.map (pickD (r.map PyData.int)) = (ys.map (pick r)).map PyData.int := by
  rw [List.map_map]
  refine List.map_congr_left fun y hy => ?_
  obtain ⟨h0, h1⟩ := h y hy
  show (r.map PyData.int).getD y.toNat .none = PyData.int (r.getD y.toNat 0)
  rw [List.getD_eq_getElem?_getD, List.getD_eq_getElem?_getD, List.getElem?_map, List.getElem?_eq_getElem (by omega)]
  rfl
theorem turned_way {us xs : List Int} {w : List (Int × List Int)} {x : Int} {p : Int × List Int} (hw : WayOk us xs w) (hp : FillOk x us p) (hx : ∀ v ∈ xs, v ≤ 10000) : F_turned [dWay w, dPair p] = .ok (dPair (stepW w p)) ∧ F_law_turned [dWay w, dPair p] = .ok (dPair (stepW w p)) := by
  obtain ⟨q, gq, fq⟩ := way_at hw hp
  have hl : q.2.length ≤ 10000 := by have := hx _ (List.mem_of_getElem? fq.2.2.1); omega
  have hb : Below (((p.2.map PyData.int).length : Nat) : Int) q.2 := by rw [List.length_map]; exact fq.2.2.2
  have h1 := turned_any (ds := p.2.map PyData.int) hp.1 gq hb hl
  have h2 := law_turned_any (ds := p.2.map PyData.int) hp.1 gq hb hl
  rw [pickD_ints fq.2.2.2] at h1 h2
  rw [step_some gq]
  exact ⟨h1, h2⟩
theorem after_way {ws us xs : List Int} {v w : List (Int × List Int)} (hv : WayOk ws us v) (hw : WayOk us xs w) (hx : ∀ y ∈ xs, y ≤ 10000) (hl : ws.length ≤ 10000) : F_after [dWay v, dWay w] = .ok (dWay (thenW v w)) := by
  have h := lc_mapE (enc := dPair) (out := dPair) (h := stepW w) (xs := v) (bd := bd1 (gN 2) tY (eCall F_turned (aCons (eVar 1) (aCons (eVar 2) aNil))) [some (false, dWay v), some (false, dWay w), none]) fun p hp => by
    obtain ⟨i, hi, rfl⟩ := List.getElem_of_mem hp
    have hi2 : i < ws.length := by rw [← hv.1]; exact hi
    have fo := hv.2 i _ _ (List.getElem?_eq_getElem hi) (List.getElem?_eq_getElem hi2)
    simp [(turned_way hw fo hx).1]
  have e : itemsD (dWay v) = .ok (v.map dPair) := rfl
  simp [F_after, e]
  try simp at h
  rw [h, cap_le (by simp [lim_eq]; rw [hv.1]; omega)]
  simp [dWay, thenW]
/-! ### is_way of a way -/
theorem fits_pairI {us : List Int} {p : Int × List Int} : F_fits [cr us, dPair p] = .ok (.bool (fitsD us (dPair p))) := by
  have t1 : isiD "tuple" (dPair p) = .ok (.bool true) := isi_tuple (d := dPair p) (fun _ h => by cases h)
  have t2 : isiD "tuple" (cr p.2) = .ok (.bool true) := isi_tuple (d := cr p.2) (fun _ h => by cases h)
  have l2 : lenD [dPair p] = .ok (.int 2) := rfl
  have e22 : ((2 : Int) == 2) = true := rfl
  have gp : ∀ ρ : Ev, gT 2 (gsC (gN 2) (gsC (gN 3) gsN)) (dPair p) ρ = .ok ((ρ.set 2 (some (false, .int p.1))).set 3 (some (false, cr p.2))) := fun ρ => by simp [dPair]
  have hfd : fitsD us (dPair p) = (decide (0 ≤ p.1) && decide (p.1 < (us.length : Int)) && decide (us[p.1.toNat]? = some ((p.2.length : Nat) : Int))) := by
    show fitsD us (.tuple [.int p.1, .tuple (p.2.map PyData.int)]) = _
    simp [fitsD]
  rw [hfd]
  simp [F_fits, F_is_pair, t1, t2, l2, gp, is_below_int]
  by_cases h0 : 0 ≤ p.1
  · by_cases h1 : p.1 < (us.length : Int)
    · have hx := ix_cr (ws := us) h0 h1
      have hg := pick_in h0 h1
      have h1' : ¬ (us.length : Int) ≤ p.1 := by omega
      rw [hg]
      simp [h0, h1, h1', hx, t2]
      rw [Bool.eq_iff_iff]
      simp
      exact eq_comm
    · have h1' : (us.length : Int) ≤ p.1 := by omega
      simp [h0, h1, h1']
  · have h0' : ¬ 0 ≤ p.1 := h0
    simp [h0]
theorem zip_map {α β : Type} (f : α → PyData) (g : β → PyData) : ∀ (as : List α) (bs : List β), zipD (as.map f) (bs.map g) = (as.zip bs).map fun p => .tuple [f p.1, g p.2]
  | [], _ => by simp [zipD]
  | _ :: _, [] => by simp [zipD]
  | a :: as, b :: bs => by simp [zipD, zip_map f g as bs]
/-! ### crates joined and multiplied -/
/-! ### crates put together, told by the trays -/
theorem flat_range {α : Type} (us : List Int) (f : Int → List α) : ((List.range us.length).flatMap fun j => f (us.getD j 0)) = us.flatMap f := by
  have e : us = (List.range us.length).map fun j => us.getD j 0 := by
    refine List.ext_getElem? fun j => ?_
    rw [List.getElem?_map]
    by_cases hj : j < us.length
    · rw [List.getElem?_range hj, List.getElem?_eq_getElem hj]
      simp [hj]
    · rw [List.getElem?_eq_none (by omega), List.getElem?_eq_none (by rw [List.length_range]; omega)]
      rfl
  conv => rhs; rw [e]
  rw [List.flatMap_map]
theorem putC_flat (us ws : List Int) : putC us ws = us.flatMap fun x => (rows ws.length x.toNat).map (rowW ws) := by
  unfold putC fills
  rw [List.map_flatMap, ← flat_range]
  refine congrArg (fun f => List.flatMap f _) (funext fun j => ?_)
  unfold one
  rw [List.map_map]
  rfl
theorem rows_one : ∀ w : Nat, rows 1 w = [List.replicate w 0]
  | 0 => rfl
  | w + 1 => by
    show (rows 1 w).flatMap _ = _
    rw [rows_one w, List.flatMap_singleton]
    simp [List.replicate_succ']
theorem rowW_one : ∀ w : Nat, rowW [1] (List.replicate w 0) = (w : Int)
  | 0 => rfl
  | w + 1 => by
    rw [List.replicate_succ, rowW_cons, rowW_one w]
    show (1 : Int) + w = _
    omega
theorem putC_oneR {ws : List Int} (h : ∀ x ∈ ws, 0 ≤ x) : putC ws [1] = ws := by
  rw [putC_flat]
  induction ws with
  | nil => rfl
  | cons a ws ih =>
    rw [List.flatMap_cons, ih fun x hx => h x (List.mem_cons_of_mem _ hx)]
    show (rows 1 a.toNat).map (rowW [1]) ++ ws = _
    rw [rows_one, List.map_singleton, rowW_one]
    have := h a List.mem_cons_self
    rw [show ((a.toNat : Nat) : Int) = a by omega]
    rfl
theorem range_pick (ws : List Int) : (List.range ws.length).map (fun (t : Nat) => pick ws (t : Int)) = ws := by
  refine List.ext_getElem? fun j => ?_
  rw [List.getElem?_map]
  by_cases hj : j < ws.length
  · rw [List.getElem?_range hj, List.getElem?_eq_getElem hj]
    simp [pick, hj]
  · rw [List.getElem?_eq_none (by rw [List.length_range]; omega), List.getElem?_eq_none (by omega)]
    rfl
theorem putC_oneL (ws : List Int) : putC [1] ws = ws := by
  rw [putC_flat, List.flatMap_singleton]
  show ((rows ws.length 1).map (rowW ws)) = ws
  have e : rows ws.length 1 = (List.range ws.length).map fun (t : Nat) => [(t : Int)] := by
    show ([[]] : List (List Int)).flatMap _ = _
    rw [List.flatMap_singleton]
    rfl
  rw [e, List.map_map]
  conv => rhs; rw [← range_pick ws]
  refine List.map_congr_left fun t _ => ?_
  show rowW ws [(t : Int)] = _
  rw [rowW_cons, rowW_nil]
  omega
/-! ### fillings whose things are fillings -/
def toD (p : Int × List Int) : Int × List PyData := (p.1, p.2.map PyData.int)
def deepD (D : Int × List (Int × List Int)) : PyData := .tuple [.int D.1, .tuple (D.2.map dPair)]
def splitI (ws : List Int) : List Int → List Int → List (Int × List Int)
  | [], _ => []
  | t :: r, xs => (t, xs.take (pick ws t).toNat) :: splitI ws r (xs.drop (pick ws t).toNat)
theorem splitI_D (ws : List Int) : ∀ r xs : List Int, splitW ws r (xs.map PyData.int) = (splitI ws r xs).map toD
  | [], _ => rfl
  | t :: r, xs => by
    rw [splitW, splitI, List.map_cons, ← List.map_take, ← List.map_drop, splitI_D ws r]
    rfl
theorem splitI_fst (ws : List Int) : ∀ r xs : List Int, (splitI ws r xs).map Prod.fst = r
  | [], _ => rfl
  | t :: r, xs => by rw [splitI, List.map_cons, splitI_fst ws r]
theorem splitI_map (ws : List Int) (f : Int → Int) : ∀ r xs : List Int, splitI ws r (xs.map f) = (splitI ws r xs).map fun p => (p.1, p.2.map f)
  | [], _ => rfl
  | t :: r, xs => by
    rw [splitI, splitI, List.map_cons, ← List.map_take, ← List.map_drop, splitI_map ws f r]
theorem splitI_whole {ws : List Int} (hw : ∀ x ∈ ws, 0 ≤ x) : ∀ r xs : List Int, rowW ws r = (xs.length : Int) → (splitI ws r xs).flatMap (fun p => p.2) = xs
  | [], xs, h => by
    rw [rowW_nil] at h
    have : xs.length = 0 := by omega
    rw [List.length_eq_zero_iff.mp this]
    rfl
  | t :: r, xs, h => by
    rw [rowW_cons] at h
    have p0 := pick_nn hw t
    have r0 := rowW_nn hw r
    rw [splitI, List.flatMap_cons, splitI_whole hw r _ (by rw [List.length_drop]; omega)]
    exact List.take_append_drop _ _
theorem splitI_join {ws : List Int} : ∀ {fs : List (Int × List Int)}, (∀ p ∈ fs, ((p.2.length : Nat) : Int) = pick ws p.1) → splitI ws (fs.map Prod.fst) (fs.flatMap fun p => p.2) = fs
  | [], _ => rfl
  | (t, ds) :: fs, h => by
    have h1 : ((ds.length : Nat) : Int) = pick ws t := h _ List.mem_cons_self
    rw [List.map_cons, List.flatMap_cons, splitI]
    show (t, (ds ++ _).take (pick ws t).toNat) :: splitI ws (fs.map Prod.fst) ((ds ++ _).drop (pick ws t).toNat) = _
    rw [← h1, Int.toNat_natCast, List.take_left, List.drop_left, splitI_join fun p hp => h p (List.mem_cons_of_mem _ hp)]
theorem splitI_ok {x : Int} {ws : List Int} (hw : ∀ x ∈ ws, 0 ≤ x) : ∀ r xs : List Int, Below (ws.length : Int) r → rowW ws r = (xs.length : Int) → Below x xs → ∀ p ∈ splitI ws r xs, FillOk x ws p
  | [], _, _, _, _ => fun p hp => by cases hp
  | t :: r, xs, hb, hr, hx => fun p hp => by
    obtain ⟨t0, t1, hb'⟩ := below_cons hb
    rw [rowW_cons] at hr
    have p0 := pick_nn hw t
    have r0 := rowW_nn hw r
    rw [splitI] at hp
    rcases List.mem_cons.mp hp with rfl | hp
    · refine ⟨t0, t1, ?_, fun y hy => hx y (List.mem_of_mem_take hy)⟩
      show ws[t.toNat]? = _
      rw [pick_in t0 t1]
      show some (pick ws t) = some (((xs.take (pick ws t).toNat).length : Nat) : Int)
      rw [List.length_take]
      congr 1
      omega
    · exact splitI_ok hw r _ hb' (by rw [List.length_drop]; omega) (fun y hy => hx y (List.mem_of_mem_drop hy)) p hp
/-! ### packed, unpacked, of whole numbers -/
def packI (us ws : List Int) (D : Int × List (Int × List Int)) : Int × List Int := (fnum (ws.length : Int) us (D.1, D.2.map Prod.fst), D.2.flatMap fun p => p.2)
def unpackI (us ws : List Int) (p : Int × List Int) : Int × List (Int × List Int) :=
  match (fills ws.length us us.length)[p.1.toNat]? with
  | some q => (q.1, splitI ws q.2 p.2)
  | none => (0, [])
theorem unpackI_some {us ws : List Int} {p q : Int × List Int} (h : (fills ws.length us us.length)[p.1.toNat]? = some q) : unpackI us ws p = (q.1, splitI ws q.2 p.2) := by
  unfold unpackI
  rw [h]
def DeepOk (us ws : List Int) (x : Int) (D : Int × List (Int × List Int)) : Prop := FillOk (ws.length : Int) us (D.1, D.2.map Prod.fst) ∧ ∀ p ∈ D.2, FillOk x ws p
def Small (ws : List Int) : Prop := ∀ x ∈ ws, 0 ≤ x ∧ x ≤ 12
theorem fills_many {us : List Int} (n : Nat) (hu : Small us) : (((fills n us us.length).length : Nat) : Int) = cnt (n : Int) us := by
  have := fills_len (n := n) (ws := us) (Nat.le_refl us.length)
  rw [List.take_length] at this
  omega
theorem fill_at {n : Nat} {us : List Int} {q : Int × List Int} (hu : Small us) (hq : FillOk (n : Int) us q) : (fills n us us.length)[(fnum (n : Int) us q).toNat]? = some q := by
  have b := fnum_bound (n := (n : Int)) (by omega) hq
  have l := fills_many n hu
  have hlt : (fnum (n : Int) us q).toNat < (fills n us us.length).length := by omega
  have g : (fills n us us.length)[(fnum (n : Int) us q).toNat]? = some (fills n us us.length)[(fnum (n : Int) us q).toNat] := List.getElem?_eq_getElem hlt
  obtain ⟨f1, f2⟩ := fills_num hu g
  have e := wnum_inj (us := us) (ws := [(n : Int)]) (fun x hx => by rw [List.mem_singleton.mp hx]; omega) (one_way f1) (one_way hq) (by rw [one_num, one_num, f2]; omega)
  rw [g]
  exact congrArg some (List.cons.inj e).1
theorem putC_len {us : List Int} (ws : List Int) (hu : Small us) : (((putC us ws).length : Nat) : Int) = cnt (ws.length : Int) us := by
  unfold putC
  rw [List.length_map]
  exact fills_many _ hu
theorem putC_get {us ws : List Int} {i : Nat} {q : Int × List Int} (h : (fills ws.length us us.length)[i]? = some q) : (putC us ws)[i]? = some (rowW ws q.2) := by
  unfold putC
  rw [List.getElem?_map, h]
  rfl
theorem fill_pick {x : Int} {ws : List Int} {p : Int × List Int} (h : FillOk x ws p) : ((p.2.length : Nat) : Int) = pick ws p.1 := by
  have := pick_in h.1 h.2.1
  rw [h.2.2.1] at this
  exact Option.some.inj this
theorem flat_row {ws : List Int} : ∀ {fs : List (Int × List Int)}, (∀ p ∈ fs, ((p.2.length : Nat) : Int) = pick ws p.1) → (((fs.flatMap fun p => p.2).length : Nat) : Int) = rowW ws (fs.map Prod.fst)
  | [], _ => rfl
  | a :: fs, h => by
    have := flat_row fun p hp => h p (List.mem_cons_of_mem _ hp)
    have := h a List.mem_cons_self
    rw [List.flatMap_cons, List.map_cons, rowW_cons, List.length_append]
    omega
theorem pack_ok {us ws : List Int} {x : Int} {D : Int × List (Int × List Int)} (hu : Small us) (h : DeepOk us ws x D) : FillOk x (putC us ws) (packI us ws D) := by
  have b := fnum_bound (n := (ws.length : Int)) (by omega) h.1
  have l := putC_len ws hu
  refine ⟨b.1, by rw [l]; exact b.2, ?_, fun y hy => ?_⟩
  · have := putC_get (fill_at hu h.1)
    show (putC us ws)[(fnum (ws.length : Int) us (D.1, D.2.map Prod.fst)).toNat]? = _
    rw [this, ← flat_row fun p hp => fill_pick (h.2 p hp)]
    rfl
  · obtain ⟨p, hp, hy⟩ := List.mem_flatMap.mp hy
    exact (h.2 p hp).2.2.2 y hy
theorem unpack_ok {us ws : List Int} {x : Int} {p : Int × List Int} (hu : Small us) (hw : Small ws) (h : FillOk x (putC us ws) p) : ∃ q, (fills ws.length us us.length)[p.1.toNat]? = some q ∧ FillOk (ws.length : Int) us q ∧ fnum (ws.length : Int) us q = p.1 ∧ rowW ws q.2 = ((p.2.length : Nat) : Int) ∧ DeepOk us ws x (unpackI us ws p) ∧ packI us ws (unpackI us ws p) = p := by
  have l := putC_len ws hu
  have l2 := fills_many ws.length hu
  have hlt : p.1.toNat < (fills ws.length us us.length).length := by have := h.1; have := h.2.1; omega
  have g : (fills ws.length us us.length)[p.1.toNat]? = some (fills ws.length us us.length)[p.1.toNat] := List.getElem?_eq_getElem hlt
  generalize (fills ws.length us us.length)[p.1.toNat] = q at g
  obtain ⟨f1, f2⟩ := fills_num hu g
  have hr : rowW ws q.2 = ((p.2.length : Nat) : Int) := by
    have := putC_get g
    rw [h.2.2.1] at this
    exact (Option.some.inj this).symm
  have hw0 : ∀ x ∈ ws, 0 ≤ x := fun x hx => (hw x hx).1
  have hp0 := h.1
  have fq : fnum (ws.length : Int) us q = p.1 := by rw [f2]; omega
  refine ⟨q, g, f1, fq, hr, ?_, ?_⟩
  · rw [unpackI_some g]
    refine ⟨?_, splitI_ok hw0 _ _ f1.2.2.2 hr h.2.2.2⟩
    show FillOk _ us (q.1, (splitI ws q.2 p.2).map Prod.fst)
    rw [splitI_fst]
    exact f1
  · rw [unpackI_some g]
    show (fnum (ws.length : Int) us (q.1, (splitI ws q.2 p.2).map Prod.fst), (splitI ws q.2 p.2).flatMap fun p => p.2) = p
    rw [splitI_fst, splitI_whole hw0 _ _ hr]
    show (fnum (ws.length : Int) us q, p.2) = p
    rw [fq]
theorem unpack_pack {us ws : List Int} {x : Int} {D : Int × List (Int × List Int)} (hu : Small us) (h : DeepOk us ws x D) : unpackI us ws (packI us ws D) = D := by
  rw [unpackI_some (p := packI us ws D) (fill_at hu h.1)]
  show (D.1, splitI ws (D.2.map Prod.fst) (D.2.flatMap fun p => p.2)) = D
  rw [splitI_join fun p hp => fill_pick (h.2 p hp)]
/-! ### ways done without and within -/
def pickP (fs : List (Int × List Int)) (y : Int) : Int × List Int := fs.getD y.toNat (0, [])
theorem pickP_in {fs : List (Int × List Int)} {y : Int} (h0 : 0 ≤ y) (h1 : y < (fs.length : Int)) : fs[y.toNat]? = some (pickP fs y) := by
  unfold pickP
  rw [List.getD_eq_getElem?_getD, List.getElem?_eq_getElem (by omega)]
  rfl
def actO (v : List (Int × List Int)) (D : Int × List (Int × List Int)) : Int × List (Int × List Int) :=
  match v[D.1.toNat]? with
  | some r => (r.1, r.2.map (pickP D.2))
  | none => (0, [])
theorem actO_some {v : List (Int × List Int)} {D : Int × List (Int × List Int)} {r : Int × List Int} (h : v[D.1.toNat]? = some r) : actO v D = (r.1, r.2.map (pickP D.2)) := by
  unfold actO
  rw [h]
def actI (w : List (Int × List Int)) (D : Int × List (Int × List Int)) : Int × List (Int × List Int) := (D.1, D.2.map (stepW w))
def mapD (f : Int → Int) (D : Int × List (Int × List Int)) : Int × List (Int × List Int) := (D.1, D.2.map fun p => (p.1, p.2.map f))
theorem deep_at {us vs ws : List Int} {x : Int} {v : List (Int × List Int)} {D : Int × List (Int × List Int)} (hv : WayOk us vs v) (h : DeepOk us ws x D) : ∃ r, v[D.1.toNat]? = some r ∧ FillOk ((D.2.length : Nat) : Int) vs r := by
  obtain ⟨r, g, f⟩ := way_at hv h.1
  refine ⟨r, g, ?_⟩
  rw [show ((D.1, D.2.map Prod.fst) : Int × List Int).2.length = D.2.length from List.length_map ..] at f
  exact f
theorem actO_ok {us vs ws : List Int} {x : Int} {v : List (Int × List Int)} {D : Int × List (Int × List Int)} (hv : WayOk us vs v) (h : DeepOk us ws x D) : DeepOk vs ws x (actO v D) := by
  obtain ⟨r, g, f⟩ := deep_at hv h
  rw [actO_some g]
  refine ⟨⟨f.1, f.2.1, ?_, fun y hy => ?_⟩, fun p hp => ?_⟩
  · show vs[r.1.toNat]? = some ((((r.2.map (pickP D.2)).map Prod.fst).length : Nat) : Int)
    rw [List.length_map, List.length_map]
    exact f.2.2.1
  · obtain ⟨p, hp, rfl⟩ := List.mem_map.mp hy
    obtain ⟨z, hz, rfl⟩ := List.mem_map.mp hp
    have hb := f.2.2.2 z hz
    have := h.2 _ (List.mem_of_getElem? (pickP_in hb.1 hb.2))
    exact ⟨this.1, this.2.1⟩
  · obtain ⟨z, hz, rfl⟩ := List.mem_map.mp hp
    have hb := f.2.2.2 z hz
    exact h.2 _ (List.mem_of_getElem? (pickP_in hb.1 hb.2))
theorem actI_ok {us ws xs : List Int} {x : Int} {w : List (Int × List Int)} {D : Int × List (Int × List Int)} (hw : WayOk ws xs w) (h : DeepOk us ws x D) : DeepOk us xs x (actI w D) := by
  have st : ∀ p ∈ D.2, FillOk x xs (stepW w p) := fun p hp => step_ok hw (h.2 p hp)
  refine ⟨⟨h.1.1, h.1.2.1, ?_, fun y hy => ?_⟩, fun p hp => ?_⟩
  · have := h.1.2.2.1
    show us[D.1.toNat]? = some ((((D.2.map (stepW w)).map Prod.fst).length : Nat) : Int)
    rw [List.length_map, List.length_map]
    rw [show ((D.1, D.2.map Prod.fst) : Int × List Int).2.length = D.2.length from List.length_map ..] at this
    exact this
  · obtain ⟨p, hp, rfl⟩ := List.mem_map.mp hy
    obtain ⟨z, hz, rfl⟩ := List.mem_map.mp hp
    exact ⟨(st z hz).1, (st z hz).2.1⟩
  · obtain ⟨z, hz, rfl⟩ := List.mem_map.mp hp
    exact st z hz
/-! #### things exchanged -/
theorem pack_map (us ws : List Int) (f : Int → Int) (D : Int × List (Int × List Int)) : packI us ws (mapD f D) = ((packI us ws D).1, (packI us ws D).2.map f) := by
  refine Prod.ext ?_ ?_
  · show fnum (ws.length : Int) us (D.1, (D.2.map fun p => (p.1, p.2.map f)).map Prod.fst) = fnum (ws.length : Int) us (D.1, D.2.map Prod.fst)
    rw [List.map_map]
    rfl
  · show (D.2.map fun (p : Int × List Int) => (p.1, p.2.map f)).flatMap (fun p => p.2) = (D.2.flatMap fun p => p.2).map f
    rw [List.flatMap_map, List.map_flatMap]
theorem unpack_map (us ws : List Int) (f : Int → Int) (k : Int) (xs : List Int) : unpackI us ws (k, xs.map f) = mapD f (unpackI us ws (k, xs)) := by
  unfold unpackI
  show (match (fills ws.length us us.length)[k.toNat]? with | some q => (q.1, splitI ws q.2 (xs.map f)) | none => (0, [])) = mapD f (match (fills ws.length us us.length)[k.toNat]? with | some q => (q.1, splitI ws q.2 xs) | none => (0, []))
  cases (fills ws.length us us.length)[k.toNat]? with
  | none => rfl
  | some q =>
    show (q.1, splitI ws q.2 (xs.map f)) = mapD f (q.1, splitI ws q.2 xs)
    rw [splitI_map]
    rfl
theorem actO_map (v : List (Int × List Int)) (f : Int → Int) (D : Int × List (Int × List Int)) : actO v (mapD f D) = mapD f (actO v D) := by
  unfold actO
  rw [show (mapD f D).1 = D.1 from rfl]
  cases v[D.1.toNat]? with
  | none => rfl
  | some r =>
    show (r.1, r.2.map (pickP (D.2.map fun (p : Int × List Int) => (p.1, p.2.map f)))) = (r.1, (r.2.map (pickP D.2)).map fun (p : Int × List Int) => (p.1, p.2.map f))
    rw [List.map_map]
    refine Prod.ext rfl (List.map_congr_left fun y _ => ?_)
    show pickP (D.2.map fun p => (p.1, p.2.map f)) y = ((pickP D.2 y).1, (pickP D.2 y).2.map f)
    unfold pickP
    rw [List.getD_eq_getElem?_getD, List.getD_eq_getElem?_getD, List.getElem?_map]
    cases D.2[y.toNat]? <;> rfl
theorem step_map {ws xs : List Int} {x : Int} {w : List (Int × List Int)} {p : Int × List Int} (f : Int → Int) (hw : WayOk ws xs w) (hp : FillOk x ws p) : stepW w (p.1, p.2.map f) = ((stepW w p).1, (stepW w p).2.map f) := by
  obtain ⟨q, g, fq⟩ := way_at hw hp
  rw [step_some g, step_some (p := (p.1, p.2.map f)) g]
  refine Prod.ext rfl ?_
  show q.2.map (pick (p.2.map f)) = (q.2.map (pick p.2)).map f
  rw [List.map_map]
  exact List.map_congr_left fun y hy => pick_map (fq.2.2.2 y hy).1 (fq.2.2.2 y hy).2
theorem actI_map {us ws xs : List Int} {x : Int} {w : List (Int × List Int)} {D : Int × List (Int × List Int)} (f : Int → Int) (hw : WayOk ws xs w) (h : DeepOk us ws x D) : actI w (mapD f D) = mapD f (actI w D) := by
  refine Prod.ext rfl ?_
  show (D.2.map fun (p : Int × List Int) => (p.1, p.2.map f)).map (stepW w) = (D.2.map (stepW w)).map fun (p : Int × List Int) => (p.1, p.2.map f)
  rw [List.map_map, List.map_map]
  exact List.map_congr_left fun p hp => step_map f hw (h.2 p hp)
/-! ### the way between crates put together -/
def putW (us ws vs xs : List Int) (v w : List (Int × List Int)) : List (Int × List Int) := (idleW (putC us ws)).map fun p => packI vs xs (actI w (actO v (unpackI us ws p)))
theorem idle_at {ws : List Int} {i : Nat} {x : Int} (h : ws[i]? = some x) : (idleW ws)[i]? = some ((i : Int), iota x) := by
  have hi : i < ws.length := (List.getElem?_eq_some_iff.mp h).1
  unfold idleW
  rw [List.getElem?_map, List.getElem?_range hi, ← plainF_get h]
  rfl
theorem putC_nn {us ws : List Int} (hw : Small ws) : ∀ x ∈ putC us ws, 0 ≤ x := fun x hx => by
  unfold putC at hx
  obtain ⟨p, _, rfl⟩ := List.mem_map.mp hx
  exact rowW_nn (fun x hx => (hw x hx).1) _
theorem put_ok {us ws vs xs : List Int} {v w : List (Int × List Int)} (hu : Small us) (hw : Small ws) (hvs : Small vs) (hv : WayOk us vs v) (hi : WayOk ws xs w) : WayOk (putC us ws) (putC vs xs) (putW us ws vs xs v w) := by
  have id := idle_ok (putC_nn (us := us) hw)
  refine ⟨by unfold putW; rw [List.length_map, idle_len], fun i p x h1 h2 => ?_⟩
  have g := idle_at h2
  have fo := id.2 i _ x g h2
  unfold putW at h1
  rw [List.getElem?_map, g] at h1
  obtain ⟨q, _, _, _, _, dk, _⟩ := unpack_ok hu hw fo
  rw [← Option.some.inj h1]
  exact pack_ok hvs (actI_ok hi (actO_ok hv dk))
theorem step_put {us ws vs xs : List Int} {v w : List (Int × List Int)} {x : Int} {p : Int × List Int} (hu : Small us) (hw : Small ws) (hv : WayOk us vs v) (hi : WayOk ws xs w) (hp : FillOk x (putC us ws) p) : stepW (putW us ws vs xs v w) p = packI vs xs (actI w (actO v (unpackI us ws p))) := by
  have g := idle_at hp.2.2.1
  rw [show ((p.1.toNat : Nat) : Int) = p.1 by have := hp.1; omega] at g
  have fo := (idle_ok (putC_nn (us := us) hw)).2 _ _ _ g hp.2.2.1
  obtain ⟨q, _, _, _, _, dk, _⟩ := unpack_ok hu hw fo
  have gp : (putW us ws vs xs v w)[p.1.toNat]? = some (packI vs xs (actI w (actO v (unpackI us ws (p.1, iota ((p.2.length : Nat) : Int)))))) := by
    unfold putW
    rw [List.getElem?_map, g]
    rfl
  rw [step_some gp]
  have ep : p = (p.1, (iota ((p.2.length : Nat) : Int)).map (pick p.2)) := by
    refine Prod.ext rfl ?_
    show p.2 = _
    unfold iota
    rw [List.map_map, Int.toNat_natCast]
    exact (range_pick p.2).symm
  conv => rhs; rw [ep, unpack_map, actO_map, actI_map _ hi (actO_ok hv dk), pack_map]
/-! #### one after another, idle -/
theorem iota_pickP (fs : List (Int × List Int)) : (iota (fs.length : Int)).map (pickP fs) = fs := by
  unfold iota
  rw [List.map_map, Int.toNat_natCast]
  refine List.ext_getElem? fun j => ?_
  rw [List.getElem?_map]
  by_cases hj : j < fs.length
  · rw [List.getElem?_range hj, List.getElem?_eq_getElem hj]
    simp [pickP, hj]
  · rw [List.getElem?_eq_none (by rw [List.length_range]; omega), List.getElem?_eq_none (by omega)]
    rfl
theorem step_idle {ws : List Int} {x : Int} {p : Int × List Int} (hp : FillOk x ws p) : stepW (idleW ws) p = p := by
  have g := idle_at hp.2.2.1
  rw [show ((p.1.toNat : Nat) : Int) = p.1 by have := hp.1; omega] at g
  rw [step_some g]
  refine Prod.ext rfl ?_
  show (iota ((p.2.length : Nat) : Int)).map (pick p.2) = p.2
  unfold iota
  rw [List.map_map, Int.toNat_natCast]
  exact range_pick p.2
theorem Small.le {ws : List Int} (h : Small ws) : ∀ x ∈ ws, 0 ≤ x ∧ x ≤ 60 := fun x hx => ⟨(h x hx).1, by have := (h x hx).2; omega⟩
theorem deepD_eq (D : Int × List (Int × List Int)) : deepD D = .tuple [.int D.1, .tuple (D.2.map dPair)] := rfl
theorem unpackedI {us ws : List Int} {x : Int} {p : Int × List Int} (hu : Small us) (hl : us.length ≤ 60) (hw : Small ws) (hl2 : ws.length ≤ 60) (hp : FillOk x (putC us ws) p) (hpl : p.2.length ≤ 100000) : F_unpacked [cr us, cr ws, dPair p] = .ok (deepD (unpackI us ws p)) := by
  obtain ⟨q, g, f1, f2, hr, _, _⟩ := unpack_ok hu hw hp
  have h := unpacked (us := us) (ws := ws) (k := p.1) (q := q) (ds := p.2.map PyData.int) hu.le (by omega) hw.le (by omega) f1 f2 (by rw [hr, List.length_map]; exact Int.le_refl _) (by rw [List.length_map]; exact hpl)
  rw [splitI_D, List.map_map] at h
  rw [unpackI_some g]
  exact h
theorem flat_le {n : Nat} : ∀ {fs : List (Int × List Int)}, (∀ p ∈ fs, p.2.length ≤ n) → (fs.flatMap fun p => p.2).length ≤ n * fs.length
  | [], _ => Nat.zero_le _
  | a :: fs, h => by
    have := flat_le fun p hp => h p (List.mem_cons_of_mem _ hp)
    have := h a List.mem_cons_self
    rw [List.flatMap_cons, List.length_append, List.length_cons, Nat.mul_succ]
    omega
theorem deep_small {us ws : List Int} {x : Int} {D : Int × List (Int × List Int)} (hu : Small us) (hw : Small ws) (h : DeepOk us ws x D) : D.2.length ≤ 12 ∧ (D.2.flatMap fun p => p.2).length ≤ 144 ∧ ∀ p ∈ D.2, p.2.length ≤ 12 := by
  have h1 : D.2.length ≤ 12 := by
    have := hu _ (List.mem_of_getElem? h.1.2.2.1)
    rw [show ((D.1, D.2.map Prod.fst) : Int × List Int).2.length = D.2.length from List.length_map ..] at this
    omega
  have h2 : ∀ p ∈ D.2, p.2.length ≤ 12 := fun p hp => by
    have := hw _ (List.mem_of_getElem? (h.2 p hp).2.2.1)
    omega
  have := flat_le h2
  exact ⟨h1, by omega, h2⟩
theorem packedI {us ws : List Int} {x : Int} {D : Int × List (Int × List Int)} (hu : Small us) (hl : us.length ≤ 60) (hw : Small ws) (hl2 : ws.length ≤ 60) (h : DeepOk us ws x D) : F_packed [cr us, cr ws, deepD D] = .ok (dPair (packI us ws D)) := by
  obtain ⟨d1, d2, _⟩ := deep_small hu hw h
  have e1 : (D.2.map toD).map fil = D.2.map dPair := by rw [List.map_map]; rfl
  have e2 : (D.2.map toD).map Prod.fst = D.2.map Prod.fst := by rw [List.map_map]; rfl
  have e3 : (D.2.map toD).flatMap (fun p => p.2) = (D.2.flatMap fun p => p.2).map PyData.int := by
    rw [List.flatMap_map, List.map_flatMap]
    rfl
  have k := packed (us := us) (ws := ws) (s := D.1) (fs := D.2.map toD) hu.le (by omega) (by omega) h.1.1 (by have := h.1.2.1; show D.1 ≤ _; exact Int.le_of_lt this) (fun p hp => by
    obtain ⟨r, hr, rfl⟩ := List.mem_map.mp hp
    have h0 := (h.2 r hr).1
    have h1 := (h.2 r hr).2.1
    exact ⟨h0, by show r.1 < _; omega⟩) (by rw [List.length_map]; omega) (by rw [e3, List.length_map]; omega)
  rw [e1, e2, e3] at k
  exact k
theorem pickD_P {fs : List (Int × List Int)} {y : Int} (h0 : 0 ≤ y) (h1 : y < (fs.length : Int)) : pickD (fs.map dPair) y = dPair (pickP fs y) := by
  have a := pickP_in h0 h1
  unfold pickD
  rw [List.getD_eq_getElem?_getD, List.getElem?_map, a]
  rfl
theorem turnedI {us vs ws : List Int} {x : Int} {v : List (Int × List Int)} {D : Int × List (Int × List Int)} (hvs : Small vs) (hv : WayOk us vs v) (h : DeepOk us ws x D) : F_turned [dWay v, deepD D] = .ok (deepD (actO v D)) ∧ F_law_turned [dWay v, deepD D] = .ok (deepD (actO v D)) := by
  obtain ⟨r, g, f⟩ := deep_at hv h
  have hb : Below (((D.2.map dPair).length : Nat) : Int) r.2 := by rw [List.length_map]; exact f.2.2.2
  have hl : r.2.length ≤ 10000 := by
    have := hvs _ (List.mem_of_getElem? f.2.2.1)
    omega
  have k1 := turned_any (ds := D.2.map dPair) h.1.1 g hb hl
  have k2 := law_turned_any (ds := D.2.map dPair) h.1.1 g hb hl
  have e : r.2.map (pickD (D.2.map dPair)) = (r.2.map (pickP D.2)).map dPair := by
    rw [List.map_map]
    exact List.map_congr_left fun y hy => pickD_P (f.2.2.2 y hy).1 (f.2.2.2 y hy).2
  rw [e] at k1 k2
  rw [actO_some g]
  exact ⟨k1, k2⟩
theorem put_wayI {us vs ws xs : List Int} {v w : List (Int × List Int)} (hu : Small us) (hul : us.length ≤ 60) (hvs : Small vs) (hvl : vs.length ≤ 60) (hws : Small ws) (hwl : ws.length ≤ 60) (hxs : Small xs) (hxl : xs.length ≤ 60) (hc : crateD (cr (putC us ws)) = true) (hn : cnt (ws.length : Int) us ≤ 60) (hv : WayOk us vs v) (hw : WayOk ws xs w) : F_put_way [.tuple [cr us, cr vs], .tuple [cr ws, cr xs], dWay v, dWay w] = .ok (dWay (putW us ws vs xs v w)) := by
  have pu := put_cr (us := us) (ws := ws) hu.le (by omega) (by omega)
  rw [if_pos hn, if_pos hc] at pu
  have hpl := putC_len ws hu
  have hp12 : ∀ x ∈ putC us ws, 0 ≤ x ∧ x ≤ 12 := fun x hx => by
    have h := hc
    unfold crateD at h
    simp at h
    have := h.2 x hx
    unfold wellD at this
    simp at this
    omega
  have id := idle_cr (ws := putC us ws) (fun x hx => ⟨(hp12 x hx).1, by have := (hp12 x hx).2; omega⟩) (by omega)
  have it : itemsD (dWay (idleW (putC us ws))) = .ok ((idleW (putC us ws)).map dPair) := rfl
  have hx : ∀ v ∈ xs, v ≤ 10000 := fun v hv => by have := (hxs v hv).2; omega
  simp [F_put_way, pu, id, it]
  refine for_eq (fun i ρ => ∃ j9 j10 j11 j12 j13 : Option (Bool × PyData), ρ = [some (false, .tuple [cr us, cr vs]), some (false, .tuple [cr ws, cr xs]), some (false, dWay v), some (false, dWay w), some (false, cr us), some (false, cr vs), some (false, cr ws), some (false, cr xs), some (true, .list (((putW us ws vs xs v w).take i).map dPair)), j9, j10, j11, j12, j13]) (by simp) ?_ ?_
  · intro i d ρ hd ⟨j9, j10, j11, j12, j13, hρ⟩
    subst hρ
    obtain ⟨p, hp, rfl⟩ := map_get' hd
    have hi : i < (idleW (putC us ws)).length := (List.getElem?_eq_some_iff.mp hp).1
    have hi3 : i < (putC us ws).length := by rw [← idle_len]; exact hi
    have fo := (idle_ok (putC_nn (us := us) hws)).2 i p _ hp (List.getElem?_eq_getElem hi3)
    have hp2 : p.2.length ≤ 12 := by
      have := hp12 _ (List.mem_of_getElem? fo.2.2.1)
      omega
    have u1 := unpackedI hu hul hws hwl fo (by omega)
    obtain ⟨q, _, _, _, _, dk, _⟩ := unpack_ok hu hws fo
    have u2 := (turnedI hvs hv dk).1
    have d1 := actO_ok hv dk
    have u3 := packedI hvs hvl hxs hxl (actI_ok hw d1)
    have hg : (putW us ws vs xs v w)[i]? = some (packI vs xs (actI w (actO v (unpackI us ws p)))) := by
      unfold putW
      rw [List.getElem?_map, hp]
      rfl
    generalize unpackI us ws p = X at u1 u2 u3 d1 hg
    generalize hY : actO v X = Y at u2 u3 d1 hg
    obtain ⟨y1, _, _⟩ := deep_small hvs hws d1
    rw [take_snoc hg]
    have k := lc_mapE (enc := dPair) (out := dPair) (h := stepW w) (xs := Y.2) (bd := bd1 (gN 13) tY (eCall F_turned (aCons (eVar 3) (aCons (eVar 13) aNil))) [some (false, .tuple [cr us, cr vs]), some (false, .tuple [cr ws, cr xs]), some (false, dWay v), some (false, dWay w), some (false, cr us), some (false, cr vs), some (false, cr ws), some (false, cr xs), some (true, .list (((putW us ws vs xs v w).take i).map dPair)), some (false, dPair p), some (false, .int Y.1), some (false, .tuple (Y.2.map dPair)), j12, none]) fun p hp => by
      simp [(turned_way hw (d1.2 p hp) hx).1]
    have e3 : deepD (actI w Y) = .tuple [.int Y.1, .tuple ((Y.2.map (stepW w)).map dPair)] := rfl
    rw [deepD_eq Y] at u2
    rw [e3] at u3
    have hlen : (((putW us ws vs xs v w).take i).map dPair).length < lim := by
      rw [List.length_map, List.length_take, lim_eq]
      have : (putW us ws vs xs v w).length = (idleW (putC us ws)).length := by unfold putW; rw [List.length_map]
      rw [this, idle_len]
      omega
    simp [-List.map_take, -List.map_map, u1, u2]
    try simp [-List.map_map, -List.map_take] at k
    rw [k, cap_le (by simp [lim_eq]; omega)]
    simp [-List.map_take, -List.map_map, u3, q_app hlen]
  · intro ρ' ⟨j9, j10, j11, j12, j13, hρ⟩
    subst hρ
    have : (putW us ws vs xs v w).length = ((idleW (putC us ws)).map dPair).length := by unfold putW; rw [List.length_map, List.length_map]
    rw [← this, List.take_length]
    simp [dWay]
/-! ### a way drawn, or none -/
theorem for_or {g : PyData → Ev → Rs Ev} {b : Ev → Rs Out} (P : Nat → Ev → Prop) (R : PyData → Prop) : ∀ {ds : List PyData} {k : Nat} {ρ : Ev}, P k ρ → (∀ (i : Nat) d ρ, ds[i]? = some d → P (k + i) ρ → (∃ ρ', turn g b d ρ = .ok (.nx ρ') ∧ P (k + i + 1) ρ') ∨ (∃ z, turn g b d ρ = .ok (.ret z) ∧ R z)) → (∃ ρ', forGo g b ds ρ = .ok (.nx ρ') ∧ P (k + ds.length) ρ') ∨ (∃ z, forGo g b ds ρ = .ok (.ret z) ∧ R z)
  | [], k, ρ, h0, hs => .inl ⟨ρ, rfl, h0⟩
  | d :: ds, k, ρ, h0, hs => by
    have tr : ∀ o, turn g b d ρ = .ok o → forGo g b (d :: ds) ρ = match o with | .nx ρ2 => forGo g b ds ρ2 | .cnt ρ2 => forGo g b ds ρ2 | .brk ρ2 => .ok (.nx ρ2) | .ret d => .ok (.ret d) | .retp d p => .ok (.retp d p) := fun o e1 => by
      unfold turn at e1
      show okE (g d ρ) (fun ρ1 => (b ρ1).bind _) = _
      cases q : g d ρ with
      | bad => rw [q] at e1; cases e1
      | err c => rw [q] at e1; cases e1
      | ok ρ0 =>
        rw [q] at e1
        show (b ρ0).bind _ = _
        rw [show b ρ0 = .ok o from e1]
        cases o <;> rfl
    rcases hs 0 d ρ rfl h0 with ⟨ρ1, e1, p1⟩ | ⟨z, e1, r⟩
    · rw [tr _ e1]
      have := for_or P R (ds := ds) (k := k + 1) (ρ := ρ1) p1 fun i d' ρ' h p => by
        have := hs (i + 1) d' ρ' h (by rw [show k + (i + 1) = k + 1 + i by omega]; exact p)
        rw [show k + (i + 1) + 1 = k + 1 + i + 1 by omega] at this
        exact this
      rw [show k + (d :: ds).length = k + 1 + ds.length by rw [List.length_cons]; omega]
      exact this
    · rw [tr _ e1]
      exact .inr ⟨z, rfl, r⟩
theorem flat_filter (t : Int → Bool) : ∀ l : List Int, (l.flatMap fun x : Int => if t x then [PyData.int x] else []) = (l.filter t).map PyData.int
  | [] => rfl
  | a :: l => by
    rw [List.flatMap_cons, flat_filter t l, List.filter_cons]
    by_cases ha : t a = true
    · rw [if_pos ha, if_pos ha]; rfl
    · rw [if_neg ha, if_neg ha]; rfl
theorem eq_nil (gs : List Int) : eqD (.list (gs.map PyData.int)) (.list []) = .ok (.bool gs.isEmpty) := by
  rw [q_eq ((gd_lst (n := 0) fun d hd => by
    obtain ⟨i, _, rfl⟩ := List.mem_map.mp hd
    exact gd_int i).1.shaped (by decide)) ((gd_lst (n := 0) (ds := []) fun d hd => by cases hd).1.shaped (by decide))]
  cases gs with
  | nil => simp [PyData.eqv, PyData.eqvAll]
  | cons a gs => simp [PyData.eqv, PyData.eqvAll]
theorem law_way {c : Int} {us vs : List Int} (c0 : 0 ≤ c) (hu : Small us) (hul : us.length ≤ 60) (hvs : Small vs) (hvl : vs.length ≤ 60) : F_law_way [.int c, cr us, cr vs] = .ok .none ∨ ∃ wy, F_law_way [.int c, cr us, cr vs] = .ok (dWay wy) ∧ WayOk us vs wy := by
  have key := for_or (g := gT 2 (gsC (gN 4) (gsC (gN 5) gsN))) (b := (sSeq (sSet 6 (e2 divD (eVar 0) (e2 addD (eC (.int 3)) (e2 mulD (eC (.int 11)) (eVar 4)))))
      (sSeq (sSet 7 (eL (lLc [8] (iRg (rg1D (eCB lenD (aCons (eVar 2) aNil)))) (gN 8) (tOr' (tB' (e2 gtD (eVar 5) (eC (.int 0)))) (tB' (e2 eqD (e2 ixD (eVar 2) (eVar 8)) (eC (.int 0))))) (eVar 8))))
      (sSeq (sIf (tB' (e2 eqD (eVar 7) (eL aNil)))
      (sRet (eC .none))
      sNil)
      (sSeq (sSet 8 (e2 ixD (eVar 7) (e2 modD (eVar 6) (eCB lenD (aCons (eVar 7) aNil)))))
      (sMut 3 appM (aCons (eTup (aCons (eVar 8) (aCons (eCB tupleD (aCons (eL (lLc [9] (iRg (rg1D (e2 ixD (eVar 2) (eVar 8)))) (gN 9) tY (e2 modD (e2 divD (eVar 6) (e2 addD (eC (.int 5)) (e2 mulD (eC (.int 7)) (eVar 9)))) (eVar 5)))) aNil)) aNil))) aNil))))))) (ds := enumG 0 (us.map PyData.int)) (k := 0) (ρ := [some (false, .int c), some (false, cr us), some (false, cr vs), some (true, .list []), none, none, none, none, none, none])
    (fun i ρ => ∃ (wy : List (Int × List Int)) (j4 j5 j6 j7 j8 j9 : Option (Bool × PyData)), WayOk (us.take i) vs wy ∧ ρ = [some (false, .int c), some (false, cr us), some (false, cr vs), some (true, .list (wy.map dPair)), j4, j5, j6, j7, j8, j9]) (fun z => z = .none) ⟨[], none, none, none, none, none, none, ⟨rfl, fun i p x h _ => by simp at h⟩, rfl⟩ (fun i d ρ hd ⟨wy, j4, j5, j6, j7, j8, j9, hw, hρ⟩ => by
      subst hρ
      rw [Nat.zero_add] at hw ⊢
      obtain ⟨m, hm, rfl⟩ := enum_get hd
      have hi : i < us.length := (List.getElem?_eq_some_iff.mp hm).1
      have hmb := hu m (List.mem_of_getElem? hm)
      have a1 : mulD (.int 11) (.int (i : Int)) = .ok (.int (11 * (i : Int))) := q_mul (wide_small (by decide) (by decide)) (wide_small (by omega) (by omega))
      have a2 := q_div (i := c) (j := 3 + 11 * (i : Int)) (by omega) (wide_small (by omega) (by omega))
      have n0 : 0 ≤ c / (3 + 11 * (i : Int)) := Int.ediv_nonneg c0 (by omega)
      generalize c / (3 + 11 * (i : Int)) = near at a2 n0
      have lf := lc_flatE (enc := PyData.int) (h := fun x : Int => if (decide (0 < m) || decide (pick vs x = 0)) then [PyData.int x] else []) (xs := iota (vs.length : Int)) (bd := bd1 (gN 8) (tOr' (tB' (e2 gtD (eVar 5) (eC (.int 0)))) (tB' (e2 eqD (e2 ixD (eVar 2) (eVar 8)) (eC (.int 0))))) (eVar 8) [some (false, .int c), some (false, cr us), some (false, cr vs), some (true, .list (wy.map dPair)), some (false, .int (i : Int)), some (false, .int m), some (false, .int near), j7, none, j9]) fun x hx => by
        obtain ⟨x0, x1⟩ := iota_below _ x hx
        have hix := ix_cr (ws := vs) x0 x1
        by_cases h1 : 0 < m
        · simp [h1]
        · by_cases h2 : pick vs x = 0
          · simp [h1, hix, h2]
          · simp [h1, hix, h2]
      rw [flat_filter] at lf
      generalize hgs : (iota (vs.length : Int)).filter (fun x => decide (0 < m) || decide (pick vs x = 0)) = gs at lf
      have gl : gs.length ≤ vs.length := by
        rw [← hgs]
        refine Nat.le_trans (List.length_filter_le ..) ?_
        rw [iota_len]
        omega
      have r0 : rgOk 0 (vs.length : Int) = true := rgOk0 (by omega) (by omega)
      have cl : cap (Rs.ok (gs.map PyData.int)) = Rs.ok (gs.map PyData.int) := cap_le (by rw [List.length_map, lim_eq]; omega)
      have en := eq_nil gs
      try simp at lf
      cases hgc : gs with
      | nil =>
        right
        rw [hgc] at lf en cl
        refine ⟨.none, ?_, rfl⟩
        simp [a1, a2, r0, rgD0]
        simp at lf cl en
        rw [lf, cl]
        simp [en]
      | cons b bs =>
        left
        have gp : 0 < gs.length := by rw [hgc]; exact Nat.succ_pos _
        have m1 := q_mod (i := near) (j := (gs.length : Int)) (by omega)
        have t0 : 0 ≤ near % (gs.length : Int) := Int.emod_nonneg _ (by omega)
        have t1 : near % (gs.length : Int) < (gs.length : Int) := Int.emod_lt_of_pos _ (by omega)
        generalize near % (gs.length : Int) = t at m1 t0 t1
        have hg : gs[t.toNat]? = some gs[t.toNat] := List.getElem?_eq_getElem (by omega)
        generalize gs[t.toNat] = y at hg
        have ix1 : ixD (.list (gs.map PyData.int)) (.int t) = .ok (.int y) := q_ixL (at_int t0 (by rw [List.getElem?_map, hg]; rfl))
        have ym := List.mem_of_getElem? hg
        rw [← hgs] at ym
        obtain ⟨ym1, ym2⟩ := List.mem_filter.mp ym
        obtain ⟨y0, y1⟩ := iota_below _ y ym1
        have ix2 := ix_cr (ws := vs) y0 y1
        have yv := hvs _ (List.mem_of_getElem? (pick_in y0 y1))
        have ym3 : 0 < m ∨ pick vs y = 0 := by
          simp at ym2
          exact ym2
        have r1 : rgOk 0 (pick vs y) = true := rgOk0 yv.1 (by omega)
        have lk := lc_mapE (enc := PyData.int) (out := PyData.int) (h := fun k : Int => near / (5 + 7 * k) % m) (xs := iota (pick vs y)) (bd := bd1 (gN 9) tY (e2 modD (e2 divD (eVar 6) (e2 addD (eC (.int 5)) (e2 mulD (eC (.int 7)) (eVar 9)))) (eVar 5)) [some (false, .int c), some (false, cr us), some (false, cr vs), some (true, .list (wy.map dPair)), some (false, .int (i : Int)), some (false, .int m), some (false, .int near), some (false, .list (gs.map PyData.int)), some (false, .int y), none]) fun k hk => by
          obtain ⟨k0, k1⟩ := iota_below _ k hk
          have mp : 0 < m := by omega
          have b1 : mulD (.int 7) (.int k) = .ok (.int (7 * k)) := q_mul (wide_small (by decide) (by decide)) (wide_small (by omega) (by omega))
          have b2 := q_div (i := near) (j := 5 + 7 * k) (by omega) (wide_small (by omega) (by omega))
          have b3 := q_mod (i := near / (5 + 7 * k)) (j := m) mp
          simp [b1, b2, b3]
        have ne : gs.isEmpty = false := by rw [hgc]; rfl
        rw [ne] at en
        have wl : wy.length ≤ 60 := by
          rw [hw.1, List.length_take]
          omega
        have cl2 : cap (Rs.ok (((iota (pick vs y)).map fun k => near / (5 + 7 * k) % m).map PyData.int)) = Rs.ok (((iota (pick vs y)).map fun k => near / (5 + 7 * k) % m).map PyData.int) := cap_le (by rw [List.length_map, List.length_map, iota_len, lim_eq]; omega)
        have ap : appM (wy.map dPair) [.tuple [.int y, .tuple (((iota (pick vs y)).map fun k => near / (5 + 7 * k) % m).map PyData.int)]] = .ok ((wy ++ [(y, (iota (pick vs y)).map fun k => near / (5 + 7 * k) % m)]).map dPair) := by
          rw [q_app (by rw [List.length_map, lim_eq]; omega), List.map_append]
          rfl
        have fo : FillOk m vs (y, (iota (pick vs y)).map fun k => near / (5 + 7 * k) % m) := ⟨y0, y1, by
          show vs[y.toNat]? = _
          rw [pick_in y0 y1]
          show some (pick vs y) = some ((((iota (pick vs y)).map fun k => near / (5 + 7 * k) % m).length : Nat) : Int)
          rw [List.length_map, iota_len, Int.toNat_of_nonneg yv.1], fun z hz => by
          obtain ⟨k, hk, rfl⟩ := List.mem_map.mp hz
          obtain ⟨k0, k1⟩ := iota_below _ k hk
          have mp : 0 < m := by omega
          exact ⟨Int.emod_nonneg _ (by omega), Int.emod_lt_of_pos _ mp⟩⟩
        generalize (iota (pick vs y)).map (fun k => near / (5 + 7 * k) % m) = row at lk cl2 ap fo
        refine ⟨[some (false, .int c), some (false, cr us), some (false, cr vs), some (true, .list ((wy ++ [(y, row)]).map dPair)), some (false, .int (i : Int)), some (false, .int m), some (false, .int near), some (false, .list (gs.map PyData.int)), some (false, .int y), j9], ?_, wy ++ [(y, row)], _, _, _, _, _, _, ?_, rfl⟩
        · try simp at lk
          simp [-List.map_append, a1, a2, r0, rgD0]
          rw [lf, cl]
          simp [-List.map_append, en, m1, ix1, ix2, r1, rgD0]
          rw [lk, cl2]
          simp [-List.map_append, ap]
        · rw [take_snoc hm]
          exact wayOk_app hw (one_way fo))
  rw [Nat.zero_add] at key
  rcases key with ⟨ρ', e, wy, j4, j5, j6, j7, j8, j9, hw, hρ⟩ | ⟨z, e, rfl⟩
  · right
    have hlen : (enumG 0 (us.map PyData.int)).length = us.length := by rw [enumG_len, List.length_map]
    rw [hlen, List.take_length] at hw
    refine ⟨wy, ?_, hw⟩
    subst hρ
    simp [F_law_way]
    rw [e]
    simp [dWay]
  · left
    simp [F_law_way]
    rw [e]
    simp
end Tm

namespace Tm
open PySem PySem.Spec PyProof.Rows L2
theorem nx_seq {a b : Ev → Rs Out} {ρ ρ' : Ev} {R : Rs Out} (h : a ρ = .ok (.nx ρ')) (k : b ρ' = R) : sSeq a b ρ = R := by
  simp [h, k]
/-! ### the parts of a way -/
theorem gd_pair {n : Nat} (p : Int × List Int) : Gd (n + 2) (dPair p) := gd_two (gd_int _) (gd_ints p.2)
theorem fst_in {ws us : List Int} {wy : List (Int × List Int)} (ok : WayOk ws us wy) {p : Int × List Int} (hp : p ∈ wy) : 0 ≤ p.1 ∧ p.1 < (us.length : Int) ∧ ((p.2.length : Nat) : Int) = pick us p.1 := by
  obtain ⟨i, hi, rfl⟩ := List.getElem_of_mem hp
  have fo := ok.2 i _ _ (List.getElem?_eq_getElem hi) (List.getElem?_eq_getElem (by rw [← ok.1]; exact hi))
  refine ⟨fo.1, fo.2.1, ?_⟩
  have := pick_in fo.1 fo.2.1
  rw [fo.2.2.1] at this
  exact Option.some.inj this
theorem sh_ints (l : List Int) : SeqAt.shaped (.list (l.map PyData.int)) = true := (gd_lst (n := 0) fun d hd => by
  obtain ⟨i, _, rfl⟩ := List.mem_map.mp hd
  exact gd_int i).sh
theorem in_ints (m : Int) (l : List Int) : inD (.int m) (.list (l.map PyData.int)) = .ok (.bool (decide (m ∈ l))) := by
  have e : ((l.map PyData.int).any fun z => PyData.eqv z (.int m)) = decide (m ∈ l) := by
    induction l with
    | nil => simp
    | cons a l ih =>
      rw [List.map_cons, List.any_cons, ih]
      by_cases h : a = m
      · subst h; simp [PyData.eqv]
      · have h' : ¬ m = a := fun z => h z.symm
        simp [PyData.eqv, h, h']
  show (@ite _ _ (Classical.propDecidable _) _ _) = _
  rw [if_pos (by rw [sh_ints]; rfl), e, Bool.false_xor]
theorem get_snoc {α : Type} {l : List α} {x y : α} {j : Nat} (h : (l ++ [x])[j]? = some y) : (j < l.length ∧ l[j]? = some y) ∨ (j = l.length ∧ y = x) := by
  rcases Nat.lt_or_ge j l.length with hj | hj
  · rw [List.getElem?_append_left hj] at h
    exact .inl ⟨hj, h⟩
  · rw [List.getElem?_append_right hj] at h
    have : j - l.length = 0 := by
      have := (List.getElem?_eq_some_iff.mp h).1
      simp at this
      omega
    rw [this] at h
    cases h
    exact .inr ⟨by omega, rfl⟩
/-! ### a body that returns, step by step -/
def Ret (r : Rs Out) (Φ : PyData → Prop) : Prop := ∃ d, r = .ok (.ret d) ∧ Φ d
theorem fn_R {n : Nat} {b : Ev → Rs Out} {ds : List PyData} {ρ : Ev} {Φ : PyData → Prop} (hρ : start0 n ds = ρ) (h : Ret (b ρ) Φ) : ∃ d, fn n b ds = .ok d ∧ Φ d := by
  subst hρ
  obtain ⟨d, e, k⟩ := h
  refine ⟨d, ?_, k⟩
  show (b _).bind _ = _
  rw [e]
  rfl
theorem fn_E {n : Nat} {b : Ev → Rs Out} {ds : List PyData} {ρ : Ev} {d : PyData} (hρ : start0 n ds = ρ) (h : Ret (b ρ) (· = d)) : fn n b ds = .ok d := by
  obtain ⟨d', e, rfl⟩ := fn_R hρ h
  exact e
theorem seq_R {a b : Ev → Rs Out} {ρ ρ' : Ev} {Φ : PyData → Prop} (h : a ρ = .ok (.nx ρ')) (k : Ret (b ρ') Φ) : Ret (sSeq a b ρ) Φ := by
  rw [z_seq, h]
  exact k
theorem seq_Q {a b : Ev → Rs Out} {ρ : Ev} {d : PyData} {Φ : PyData → Prop} (h : a ρ = .ok (.ret d)) (k : Φ d) : Ret (sSeq a b ρ) Φ := by
  rw [z_seq, h]
  exact ⟨d, rfl, k⟩
theorem ret_R {f : Ev → Rs PyData} {ρ : Ev} {d : PyData} {Φ : PyData → Prop} (h : f ρ = .ok d) (k : Φ d) : Ret (sRet f ρ) Φ := by
  rw [z_ret, h]
  exact ⟨d, rfl, k⟩
theorem for_R {it : Ev → Rs (List PyData)} {g : PyData → Ev → Rs Ev} {b rest : Ev → Rs Out} {ρ : Ev} {ds : List PyData} {Φ : PyData → Prop} (hit : it ρ = .ok ds) (P : Nat → Ev → Prop) (h0 : P 0 ρ) (hs : ∀ (i : Nat) d ρ, ds[i]? = some d → P i ρ → Stp (turn g b d ρ) (P (i + 1))) (hk : ∀ ρ', P ds.length ρ' → Ret (rest ρ') Φ) : Ret (sSeq (sFor it g b) rest ρ) Φ := by
  obtain ⟨ρ', e, p⟩ := for_all P h0 hs
  refine seq_R (ρ' := ρ') ?_ (hk ρ' p)
  rw [z_for, hit, bind_ok', e]
theorem stp_seq {a b : Ev → Rs Out} {ρ ρ' : Ev} {P : Ev → Prop} (h : a ρ = .ok (.nx ρ')) (k : Stp (b ρ') P) : Stp (sSeq a b ρ) P := by
  rw [z_seq, h]
  exact k
theorem stp_of {r : Rs Out} {ρ : Ev} {P : Ev → Prop} (h : r = .ok (.nx ρ)) (k : P ρ) : Stp r P := by
  rw [h]
  exact k
theorem stp_turn {g : PyData → Ev → Rs Ev} {b : Ev → Rs Out} {d : PyData} {ρ ρ' : Ev} {P : Ev → Prop} (h : g d ρ = .ok ρ') (k : Stp (b ρ') P) : Stp (turn g b d ρ) P := by
  rw [z_turn, h, z_okE]
  exact k
theorem for_S {it : Ev → Rs (List PyData)} {g : PyData → Ev → Rs Ev} {b rest : Ev → Rs Out} {ρ : Ev} {ds : List PyData} {Q : Ev → Prop} (hit : it ρ = .ok ds) (P : Nat → Ev → Prop) (h0 : P 0 ρ) (hs : ∀ (i : Nat) d ρ, ds[i]? = some d → P i ρ → Stp (turn g b d ρ) (P (i + 1))) (hk : ∀ ρ', P ds.length ρ' → Stp (rest ρ') Q) : Stp (sSeq (sFor it g b) rest ρ) Q := by
  obtain ⟨ρ', e, p⟩ := for_all P h0 hs
  refine stp_seq (ρ' := ρ') ?_ (hk ρ' p)
  rw [z_for, hit, bind_ok', e]
/-! ### three layers -/
def join3 (a b c : List Int) (D : Int × List (Int × List Int)) : Int × List (Int × List Int) := (fnum (b.length : Int) a (D.1, D.2.map fun f => (unpackI b c f).1), D.2.flatMap fun f => (unpackI b c f).2)
def flat3 (b c : List Int) (D : Int × List (Int × List Int)) : Int × List (Int × List Int) := (D.1, D.2.map fun f => ((unpackI b c f).1, (unpackI b c f).2.map Prod.fst))
theorem flat3_ok {a b c : List Int} {x : Int} {D : Int × List (Int × List Int)} (hb : Small b) (hc : Small c) (h : DeepOk a (putC b c) x D) : DeepOk a b (c.length : Int) (flat3 b c D) := by
  have each : ∀ f ∈ D.2, DeepOk b c x (unpackI b c f) := fun f hf => by
    obtain ⟨q, _, _, _, _, dk, _⟩ := unpack_ok hb hc (h.2 f hf)
    exact dk
  refine ⟨⟨h.1.1, h.1.2.1, ?_, fun y hy => ?_⟩, fun p hp => ?_⟩
  · have := h.1.2.2.1
    show a[D.1.toNat]? = some (((((flat3 b c D).2.map Prod.fst).length : Nat) : Int))
    rw [show ((D.1, D.2.map Prod.fst) : Int × List Int).2.length = D.2.length from List.length_map ..] at this
    rw [List.length_map]
    show a[D.1.toNat]? = some ((((D.2.map fun f => ((unpackI b c f).1, (unpackI b c f).2.map Prod.fst)).length : Nat) : Int))
    rw [List.length_map]
    exact this
  · obtain ⟨p, hp, rfl⟩ := List.mem_map.mp hy
    obtain ⟨f, hf, rfl⟩ := List.mem_map.mp hp
    exact ⟨(each f hf).1.1, (each f hf).1.2.1⟩
  · obtain ⟨f, hf, rfl⟩ := List.mem_map.mp hp
    exact (each f hf).1
theorem join3_flat (a b c : List Int) (D : Int × List (Int × List Int)) : ((join3 a b c D).1, (join3 a b c D).2.map Prod.fst) = packI a b (flat3 b c D) := by
  unfold join3 packI flat3
  simp only [List.map_map, List.map_flatMap, List.flatMap_map]
  rfl
theorem join3_ok {a b c : List Int} {x : Int} {D : Int × List (Int × List Int)} (ha : Small a) (hb : Small b) (hc : Small c) (h : DeepOk a (putC b c) x D) : DeepOk (putC a b) c x (join3 a b c D) := by
  refine ⟨?_, fun p hp => ?_⟩
  · rw [join3_flat]
    exact pack_ok ha (flat3_ok hb hc h)
  · obtain ⟨f, hf, hp⟩ := List.mem_flatMap.mp hp
    obtain ⟨q, _, _, _, _, dk, _⟩ := unpack_ok hb hc (h.2 f hf)
    exact dk.2 p hp
def regI (a b c : List Int) (p : Int × List Int) : Int × List Int := packI (putC a b) c (join3 a b c (unpackI a (putC b c) p))
def regW (a b c : List Int) : List (Int × List Int) := (idleW (putC a (putC b c))).map (regI a b c)
/-- put together, within the bounds -/
structure PutOk (a b : List Int) : Prop where
  n : cnt (b.length : Int) a ≤ 60
  c : crateD (cr (putC a b)) = true
theorem crate_small {ws : List Int} (h : crateD (cr ws) = true) : Small ws ∧ ws.length ≤ 60 := by
  unfold crateD at h
  simp at h
  refine ⟨fun x hx => ?_, h.1⟩
  have := h.2 x hx
  unfold wellD at this
  simp at this
  omega
theorem PutOk.put {a b : List Int} (h : PutOk a b) (ha : Small a) (hl : a.length ≤ 60) (hl2 : b.length ≤ 60) : F_put [cr a, cr b] = .ok (cr (putC a b)) := by
  rw [put_cr ha.le (by omega) (by omega), if_pos h.n, if_pos h.c]
theorem unpacked_twice {a b c : List Int} {x : Int} {p : Int × List Int} (ha : Small a) (hal : a.length ≤ 60) (hb : Small b) (hbl : b.length ≤ 60) (hc : Small c) (hcl : c.length ≤ 60) (pbc : PutOk b c) (hp : FillOk x (putC a (putC b c)) p) (hpl : p.2.length ≤ 100000) : F_unpacked_twice [cr a, cr b, cr c, dPair p] = .ok (.tuple [.int (unpackI a (putC b c) p).1, .tuple ((unpackI a (putC b c) p).2.map fun f => deepD (unpackI b c f))]) := by
  obtain ⟨ls, ll⟩ := crate_small pbc.c
  have u1 := unpackedI ha hal ls ll hp hpl
  obtain ⟨q, _, _, _, _, dk, _⟩ := unpack_ok ha ls hp
  have pu := pbc.put hb hbl hcl
  generalize unpackI a (putC b c) p = D at u1 dk
  obtain ⟨d1, d2, d3⟩ := deep_small ha ls dk
  rw [deepD_eq] at u1
  unfold F_unpacked_twice
  refine fn_E (ρ := [some (false, cr a), some (false, cr b), some (false, cr c), some (false, dPair p), none, none, none]) rfl ?_
  refine seq_R (ρ' := [some (false, cr a), some (false, cr b), some (false, cr c), some (false, dPair p), some (false, .int D.1), some (false, .tuple (D.2.map dPair)), none]) (by simp [pu, u1, -List.map_map]) ?_
  refine ret_R (d := .tuple [.int D.1, .tuple (D.2.map fun f => deepD (unpackI b c f))]) ?_ rfl
  simp [-List.map_map]
  rw [lc_mapE (enc := dPair) (out := fun z : PyData => z) (h := fun f => deepD (unpackI b c f)) (xs := D.2)]
  rotate_left
  · intro f hf
    have := unpackedI hb hbl hc hcl (dk.2 f hf) (by have := d3 f hf; omega)
    simp [this]
  rw [cap_le (by simp [lim_eq]; omega)]
  simp
theorem regrouped_ok {a b c : List Int} (ha : Small a) (hal : a.length ≤ 60) (hb : Small b) (hbl : b.length ≤ 60) (hc : Small c) (hcl : c.length ≤ 60) (pab : PutOk a b) (pbc : PutOk b c) (pa : PutOk a (putC b c)) : F_regrouped [cr a, cr b, cr c] = .ok (dWay (regW a b c)) := by
  obtain ⟨ls, ll⟩ := crate_small pbc.c
  obtain ⟨hs, hl⟩ := crate_small pab.c
  obtain ⟨ws, wl⟩ := crate_small pa.c
  have u1 := pab.put ha hal hbl
  have u2 := pbc.put hb hbl hcl
  have u3 := pa.put ha hal ll
  have id := idle_cr (ws := putC a (putC b c)) (fun x hx => ⟨(ws x hx).1, by have := (ws x hx).2; omega⟩) (by omega)
  have it : itemsD (dWay (idleW (putC a (putC b c)))) = .ok ((idleW (putC a (putC b c))).map dPair) := rfl
  have rl : (regW a b c).length = (putC a (putC b c)).length := by unfold regW; rw [List.length_map, idle_len]
  unfold F_regrouped
  refine fn_E (ρ := [some (false, cr a), some (false, cr b), some (false, cr c), none, none, none, none]) rfl ?_
  refine seq_R (ρ' := [some (false, cr a), some (false, cr b), some (false, cr c), some (false, cr (putC a b)), none, none, none]) (by simp [u1]) ?_
  refine seq_R (ρ' := [some (false, cr a), some (false, cr b), some (false, cr c), some (false, cr (putC a b)), some (true, .list []), none, none]) (by simp) ?_
  refine for_R (ds := (idleW (putC a (putC b c))).map dPair) (by simp [u2, u3, id, it, -List.map_map]) (fun i ρ => ∃ j5 j6, ρ = [some (false, cr a), some (false, cr b), some (false, cr c), some (false, cr (putC a b)), some (true, .list (((regW a b c).take i).map dPair)), j5, j6]) ⟨none, none, by simp⟩ ?_ ?_
  · intro i d ρ hd ⟨j5, j6, hρ⟩
    subst hρ
    obtain ⟨p, hp, rfl⟩ := map_get' hd
    have hi : i < (idleW (putC a (putC b c))).length := (List.getElem?_eq_some_iff.mp hp).1
    have hi3 : i < (putC a (putC b c)).length := by rw [← idle_len]; exact hi
    have fo := (idle_ok (fun x hx => (ws x hx).1)).2 i p _ hp (List.getElem?_eq_getElem hi3)
    have hp2 : p.2.length ≤ 12 := by
      have := ws _ (List.mem_of_getElem? fo.2.2.1)
      omega
    have v1 := unpacked_twice ha hal hb hbl hc hcl pbc fo (by omega)
    obtain ⟨q, _, _, _, _, dk, _⟩ := unpack_ok ha ls fo
    have jk := join3_ok ha hb hc dk
    have hg : (regW a b c)[i]? = some (packI (putC a b) c (join3 a b c (unpackI a (putC b c) p))) := by
      unfold regW
      rw [List.getElem?_map, hp]
      rfl
    have v3 := packedI hs hl hc hcl jk
    have fk := flat3_ok hb hc dk
    generalize hD : unpackI a (putC b c) p = D at v1 dk jk hg v3 fk
    obtain ⟨d1, _, _⟩ := deep_small ha ls dk
    obtain ⟨j1, _, _⟩ := deep_small hs hc jk
    have v2 : F_packed [cr a, cr b, .tuple [.int D.1, .tuple (D.2.map fun f => deepD (unpackI b c f))]] = .ok (deepD (join3 a b c D)) := by
      have e1 : (D.2.map fun f => ((unpackI b c f).1, (unpackI b c f).2.map dPair)).map fil = D.2.map fun f => deepD (unpackI b c f) := by rw [List.map_map]; rfl
      have e2 : (D.2.map fun f => ((unpackI b c f).1, (unpackI b c f).2.map dPair)).map Prod.fst = D.2.map fun f => (unpackI b c f).1 := by rw [List.map_map]; rfl
      have e3 : (D.2.map fun f => ((unpackI b c f).1, (unpackI b c f).2.map dPair)).flatMap (fun p => p.2) = (join3 a b c D).2.map dPair := by
        rw [List.flatMap_map]
        unfold join3
        rw [List.map_flatMap]
      have k := packed (us := a) (ws := b) (s := D.1) (fs := D.2.map fun f => ((unpackI b c f).1, (unpackI b c f).2.map dPair)) ha.le (by omega) (by omega) dk.1.1 (by have := dk.1.2.1; show D.1 ≤ _; exact Int.le_of_lt this) (fun r hr => by
        obtain ⟨f, hf, rfl⟩ := List.mem_map.mp hr
        have h0 := fk.1.2.2.2 (unpackI b c f).1 (List.mem_map.mpr ⟨_, List.mem_map.mpr ⟨f, hf, rfl⟩, rfl⟩)
        exact ⟨h0.1, by show (unpackI b c f).1 < _; omega⟩) (by rw [List.length_map]; omega) (by rw [e3, List.length_map]; omega)
      rw [e1, e2, e3] at k
      exact k
    have ap : appM (((regW a b c).take i).map dPair) [dPair (packI (putC a b) c (join3 a b c D))] = .ok (((regW a b c).take (i + 1)).map dPair) := by
      rw [q_app (by rw [List.length_map, List.length_take, lim_eq]; omega), take_snoc hg, List.map_append]
      rfl
    simp [-List.map_take, -List.map_map, v1, v2, v3, ap]
  · intro ρ' ⟨j5, j6, hρ⟩
    subst hρ
    rw [List.length_map, idle_len, ← rl, List.take_length]
    refine ret_R (d := dWay (regW a b c)) (by simp [-List.map_map]; rfl) rfl
def innerF (b c : List Int) (t : Int) : Int × List Int := (fills c.length b b.length).getD t.toNat (0, [])
theorem innerF_in {b c : List Int} (hb : Small b) {t : Int} (t0 : 0 ≤ t) (t1 : t < ((putC b c).length : Int)) : (fills c.length b b.length)[t.toNat]? = some (innerF b c t) := by
  have l := putC_len c hb
  have l2 := fills_many c.length hb
  have h : t.toNat < (fills c.length b b.length).length := by omega
  unfold innerF
  rw [List.getD_eq_getElem?_getD, List.getElem?_eq_getElem h]
  rfl
def midI (a b c : List Int) (q : Int × List Int) : Int := fnum (b.length : Int) a (q.1, q.2.map fun t => (innerF b c t).1)
def lastI (b c : List Int) (q : Int × List Int) : List Int := q.2.flatMap fun t => (innerF b c t).2
def thereI (a b c : List Int) (q : Int × List Int) : Int := fnum (c.length : Int) (putC a b) (midI a b c q, lastI b c q)
theorem flat3_q {a b c : List Int} {x : Int} {q : Int × List Int} {xs : List Int} (hb : Small b) (hc : Small c) (hq : Below ((putC b c).length : Int) q.2) (hd : ∀ f ∈ splitI (putC b c) q.2 xs, FillOk x (putC b c) f) : flat3 b c (q.1, splitI (putC b c) q.2 xs) = (q.1, q.2.map (innerF b c)) := by
  unfold flat3
  have e : (splitI (putC b c) q.2 xs).map (fun f => ((unpackI b c f).1, (unpackI b c f).2.map Prod.fst)) = (splitI (putC b c) q.2 xs).map fun f => innerF b c f.1 := by
    refine List.map_congr_left fun f hf => ?_
    have fo := hd f hf
    have g := innerF_in (c := c) hb fo.1 fo.2.1
    rw [unpackI_some g]
    show ((innerF b c f.1).1, (splitI c (innerF b c f.1).2 f.2).map Prod.fst) = _
    rw [splitI_fst]
  show (q.1, (splitI (putC b c) q.2 xs).map _) = _
  rw [e]
  have e2 : (splitI (putC b c) q.2 xs).map (fun f => innerF b c f.1) = ((splitI (putC b c) q.2 xs).map Prod.fst).map (innerF b c) := by rw [List.map_map]; rfl
  rw [e2, splitI_fst]
theorem reg_get {a b c : List Int} (ha : Small a) (hb : Small b) (hc : Small c) (hl : Small (putC b c)) {i : Nat} {q : Int × List Int} (hq : (fills (putC b c).length a a.length)[i]? = some q) : (regW a b c)[i]? = some (thereI a b c q, iota (rowW (putC b c) q.2)) ∧ FillOk ((putC b c).length : Int) a q ∧ FillOk (b.length : Int) a (q.1, q.2.map fun t => (innerF b c t).1) ∧ FillOk (c.length : Int) (putC a b) (midI a b c q, lastI b c q) := by
  have g := putC_get hq
  have gi := idle_at g
  obtain ⟨fq, _⟩ := fills_num ha hq
  have r0 : 0 ≤ rowW (putC b c) q.2 := rowW_nn (fun x hx => (hl x hx).1) _
  have hfo := (idle_ok (putC_nn (us := a) hl)).2 i _ _ gi g
  obtain ⟨q', g', f1, f2, hr, dk, pk⟩ := unpack_ok ha hl hfo
  have e0 : unpackI a (putC b c) ((i : Int), iota (rowW (putC b c) q.2)) = (q.1, splitI (putC b c) q.2 (iota (rowW (putC b c) q.2))) := unpackI_some (by show (fills _ _ _)[((i : Int)).toNat]? = _; rw [Int.toNat_natCast]; exact hq)
  have ff := flat3_ok hb hc dk
  have f3 := flat3_q (a := a) (x := rowW (putC b c) q.2) (q := q) (xs := iota (rowW (putC b c) q.2)) hb hc fq.2.2.2 (fun f hf => by
    rw [e0] at dk
    exact dk.2 f hf)
  have jk := join3_ok ha hb hc dk
  have e1 := join3_flat a b c (unpackI a (putC b c) ((i : Int), iota (rowW (putC b c) q.2)))
  rw [e0, f3] at e1
  rw [e0, f3] at ff
  have em : packI a b (q.1, q.2.map (innerF b c)) = (midI a b c q, lastI b c q) := by
    unfold packI midI lastI
    simp only [List.map_map, List.flatMap_map]
    rfl
  rw [em] at e1
  have hj := jk.1
  rw [e0, e1] at hj
  refine ⟨?_, fq, ?_, hj⟩
  · unfold regW
    rw [List.getElem?_map, gi]
    show some (regI a b c ((i : Int), iota (rowW (putC b c) q.2))) = _
    unfold regI
    rw [e0]
    unfold packI
    rw [e1]
    have hth : (join3 a b c (q.1, splitI (putC b c) q.2 (iota (rowW (putC b c) q.2)))).2.flatMap (fun p => p.2) = iota (rowW (putC b c) q.2) := by
      unfold join3
      rw [e0] at dk pk
      have : (splitI (putC b c) q.2 (iota (rowW (putC b c) q.2))).flatMap (fun f => (unpackI b c f).2.flatMap fun p => p.2) = (splitI (putC b c) q.2 (iota (rowW (putC b c) q.2))).flatMap fun f => f.2 := by
        have cg : ∀ (l : List (Int × List Int)), (∀ f ∈ l, FillOk (rowW (putC b c) q.2) (putC b c) f) → l.flatMap (fun f => (unpackI b c f).2.flatMap fun p => p.2) = l.flatMap fun f => f.2 := fun l hl => by
          induction l with
          | nil => rfl
          | cons f l ih =>
            obtain ⟨_, _, _, _, _, _, p1⟩ := unpack_ok hb hc (hl f List.mem_cons_self)
            have p2 : (unpackI b c f).2.flatMap (fun p => p.2) = f.2 := congrArg Prod.snd p1
            rw [List.flatMap_cons, List.flatMap_cons, p2, ih fun g hg => hl g (List.mem_cons_of_mem _ hg)]
        exact cg _ dk.2
      show (List.flatMap _ _).flatMap _ = _
      rw [List.flatMap_assoc, this]
      exact congrArg Prod.snd pk
    rw [hth]
    rfl
  · have := ff.1
    rw [show (q.1, q.2.map (innerF b c)).2.map Prod.fst = q.2.map fun t => (innerF b c t).1 by rw [List.map_map]; rfl] at this
    exact this
/-! ### sorting, small -/
/-! ### the small crates -/
theorem crate_mk {ws : List Int} (h : Small ws) (hl : ws.length ≤ 60) : crateD (cr ws) = true := by
  unfold crateD
  simp
  refine ⟨hl, fun x hx => ?_⟩
  have := h x hx
  unfold wellD
  simp
  omega
theorem perm_of_sub : ∀ {l r : List Int}, l.Nodup → (∀ x ∈ l, x ∈ r) → r.length ≤ l.length → l.Perm r
  | [], r, _, _, h => by
    have : r = [] := List.eq_nil_of_length_eq_zero (by simpa using h)
    rw [this]
  | x :: l, r, hn, hs, h => by
    obtain ⟨h1, h2⟩ := List.nodup_cons.mp hn
    have hx := hs x List.mem_cons_self
    have hp := perm_of_sub (l := l) (r := r.erase x) h2 (fun y hy => (List.mem_erase_of_ne (fun z : y = x => h1 (z ▸ hy))).mpr (hs y (List.mem_cons_of_mem _ hy))) (by rw [List.length_erase_of_mem hx]; simp at h; omega)
    exact (hp.cons x).trans (List.perm_cons_erase hx).symm
theorem iota_mem {n y : Int} : y ∈ iota n ↔ 0 ≤ y ∧ y < n := by
  refine ⟨fun h => iota_below n y h, fun ⟨h0, h1⟩ => ?_⟩
  have := iota_get (x := n) (i := y.toNat) (by omega)
  rw [show ((y.toNat : Nat) : Int) = y by omega] at this
  exact List.mem_of_getElem? this
/-! ### regrouped: each tray just once -/
theorem innerF_num {b c : List Int} (hb : Small b) {t : Int} (t0 : 0 ≤ t) (t1 : t < ((putC b c).length : Int)) : fnum (c.length : Int) b (innerF b c t) = t ∧ FillOk (c.length : Int) b (innerF b c t) := by
  obtain ⟨h1, h2⟩ := fills_num hb (innerF_in hb t0 t1)
  exact ⟨by rw [h2]; omega, h1⟩
theorem there_inj {a b c : List Int} (ha : Small a) (hb : Small b) (hc : Small c) (hab : Small (putC a b)) (hl : Small (putC b c)) {i j : Nat} {q r : Int × List Int} (hq : (fills (putC b c).length a a.length)[i]? = some q) (hr : (fills (putC b c).length a a.length)[j]? = some r) (h : thereI a b c q = thereI a b c r) : q = r := by
  obtain ⟨_, f1, f2, f3⟩ := reg_get ha hb hc hl hq
  obtain ⟨_, g1, g2, g3⟩ := reg_get ha hb hc hl hr
  have e1 := fill_at hab f3
  have e2 := fill_at hab g3
  unfold thereI at h
  rw [h, e2] at e1
  have e3 := Option.some.inj e1
  have e4 : midI a b c r = midI a b c q := congrArg Prod.fst e3
  have e5 : lastI b c r = lastI b c q := congrArg Prod.snd e3
  have k1 := fill_at ha f2
  have k2 := fill_at ha g2
  unfold midI at e4
  rw [← e4, k2] at k1
  have k3 := Option.some.inj k1
  have k4 : r.1 = q.1 := (Prod.mk.inj k3).1
  have k5 : (r.2.map fun t => (innerF b c t).1) = q.2.map fun t => (innerF b c t).1 := (Prod.mk.inj k3).2
  have sp : ∀ {z : Int × List Int}, FillOk ((putC b c).length : Int) a z → splitI b (z.2.map fun t => (innerF b c t).1) (lastI b c z) = z.2.map (innerF b c) := fun {z} hz => by
    have := splitI_join (ws := b) (fs := z.2.map (innerF b c)) fun p hp => by
      obtain ⟨t, ht, rfl⟩ := List.mem_map.mp hp
      obtain ⟨t0, t1⟩ := hz.2.2.2 t ht
      exact fill_pick (innerF_num hb t0 t1).2
    rw [List.map_map, List.flatMap_map] at this
    exact this
  have bk : ∀ {z : Int × List Int}, FillOk ((putC b c).length : Int) a z → (z.2.map (innerF b c)).map (fnum (c.length : Int) b) = z.2 := fun {z} hz => by
    rw [List.map_map]
    have : z.2.map (fnum (c.length : Int) b ∘ innerF b c) = z.2.map id := List.map_congr_left fun t ht => by
      obtain ⟨t0, t1⟩ := hz.2.2.2 t ht
      exact (innerF_num hb t0 t1).1
    rw [this, List.map_id]
  have s1 := sp f1
  have s2 := sp g1
  rw [k5, e5, s1] at s2
  have b1 := bk f1
  rw [s2, bk g1] at b1
  exact Prod.ext k4.symm b1.symm
theorem reg_way {a b c : List Int} (ha : Small a) (hb : Small b) (hc : Small c) (hl : Small (putC b c)) (hab : Small (putC a b)) : WayOk (putC a (putC b c)) (putC (putC a b) c) (regW a b c) := by
  refine ⟨by unfold regW; rw [List.length_map, idle_len], fun i p x hp hx => ?_⟩
  have gi := idle_at hx
  unfold regW at hp
  rw [List.getElem?_map, gi] at hp
  cases hp
  have fo := (idle_ok (putC_nn (us := a) hl)).2 i _ _ gi hx
  obtain ⟨_, _, _, _, _, dk, _⟩ := unpack_ok ha hl fo
  exact pack_ok hab (join3_ok ha hb hc dk)
theorem reg_perm {a b c : List Int} (ha : Small a) (hb : Small b) (hc : Small c) (hab : Small (putC a b)) (hl : Small (putC b c)) (hn : cnt (c.length : Int) (putC a b) = ((putC a (putC b c)).length : Int)) : ((regW a b c).map Prod.fst).Perm (iota (cnt (c.length : Int) (putC a b))) := by
  have w := reg_way ha hb hc hl hab
  have len := w.1
  have pl := putC_len c hab
  have fl := putC_len (us := a) (putC b c) ha
  have fm := fills_many (us := a) (putC b c).length ha
  have get : ∀ i, i < (regW a b c).length → ∃ q, (fills (putC b c).length a a.length)[i]? = some q ∧ (regW a b c)[i]? = some (thereI a b c q, iota (rowW (putC b c) q.2)) := fun i hi => by
    have h : i < (fills (putC b c).length a a.length).length := by omega
    exact ⟨_, List.getElem?_eq_getElem h, (reg_get ha hb hc hl (List.getElem?_eq_getElem h)).1⟩
  refine perm_of_sub ?_ (fun x hx => ?_) (by rw [iota_len, List.length_map]; omega)
  · refine List.pairwise_iff_getElem.mpr fun i j hi hj hij z => ?_
    rw [List.length_map] at hi hj
    obtain ⟨q, q1, q2⟩ := get i hi
    obtain ⟨r, r1, r2⟩ := get j hj
    rw [List.getElem_map, List.getElem_map, (List.getElem?_eq_some_iff.mp q2).2, (List.getElem?_eq_some_iff.mp r2).2] at z
    have z : thereI a b c q = thereI a b c r := z
    have e := there_inj ha hb hc hab hl q1 r1 z
    have n1 := (fills_num ha q1).2
    have n2 := (fills_num ha r1).2
    rw [e] at n1
    omega
  · obtain ⟨p, hp, rfl⟩ := List.mem_map.mp hx
    obtain ⟨i, hi⟩ := List.getElem?_of_mem hp
    have h1 := (List.getElem?_eq_some_iff.mp hi).1
    have h2 : i < (putC a (putC b c)).length := by omega
    have := w.2 i p _ hi (List.getElem?_eq_getElem h2)
    rw [iota_mem]
    exact ⟨this.1, by have := this.2.1; omega⟩
theorem reg_small {a b c : List Int} (ha : Small a) (hb : Small b) (hc : Small c) (hab : Small (putC a b)) (hl : Small (putC b c)) (hs : Small (putC a (putC b c))) (hn : cnt (c.length : Int) (putC a b) = ((putC a (putC b c)).length : Int)) : Small (putC (putC a b) c) := by
  have w := reg_way ha hb hc hl hab
  have pl := putC_len c hab
  intro x hx
  obtain ⟨j, hj⟩ := List.getElem?_of_mem hx
  have hj1 := (List.getElem?_eq_some_iff.mp hj).1
  have hm : ((j : Nat) : Int) ∈ (regW a b c).map Prod.fst := (reg_perm ha hb hc hab hl hn).mem_iff.mpr (iota_mem.mpr ⟨by omega, by omega⟩)
  obtain ⟨p, hp, hpj⟩ := List.mem_map.mp hm
  obtain ⟨i, hi⟩ := List.getElem?_of_mem hp
  have h1 := (List.getElem?_eq_some_iff.mp hi).1
  have h2 : i < (putC a (putC b c)).length := by rw [← w.1]; exact h1
  have g := w.2 i p _ hi (List.getElem?_eq_getElem h2)
  have hq : i < (fills (putC b c).length a a.length).length := by
    have := putC_len (us := a) (putC b c) ha
    have := fills_many (us := a) (putC b c).length ha
    omega
  have rg := reg_get ha hb hc hl (List.getElem?_eq_getElem hq)
  rw [rg.1] at hi
  cases hi
  have pg := putC_get (us := a) (ws := putC b c) (List.getElem?_eq_getElem hq)
  have sm := hs _ (List.mem_of_getElem? pg)
  have gl := g.2.2.1
  rw [hpj, Int.toNat_natCast, hj] at gl
  have gl := Option.some.inj gl
  rw [gl, iota_len]
  omega
/-! ### how many fillings a crate put together has -/
theorem sum_mapL {α : Type} (f : α → Int) (c : Int) : ∀ l : List α, (l.map fun x => c * f x).sum = c * (l.map f).sum
  | [] => by simp
  | x :: l => by simp [sum_mapL f c l, Int.mul_add]
theorem sum_flatI {α : Type} (f : α → List Int) : ∀ l : List α, (l.flatMap f).sum = (l.map fun x => (f x).sum).sum
  | [] => rfl
  | x :: l => by simp [List.flatMap_cons, List.sum_append, sum_flatI f l]
theorem cnt_rows {n : Int} {ws : List Int} (hw : ∀ x ∈ ws, 0 ≤ x) : ∀ m : Nat, ((rows ws.length m).map fun r => n ^ (rowW ws r).toNat).sum = cnt n ws ^ m
  | 0 => by
    show (([[]] : List (List Int)).map fun r => n ^ (rowW ws r).toNat).sum = _
    simp [rowW_nil]
  | m + 1 => by
    have e : rows ws.length (m + 1) = (rows ws.length m).flatMap fun r => (List.range ws.length).map fun (t : Nat) => r ++ [(t : Int)] := rfl
    have c1 : ∀ r : List Int, ((List.range ws.length).map fun (t : Nat) => n ^ (rowW ws (r ++ [(t : Int)])).toNat) = (List.range ws.length).map fun (t : Nat) => n ^ (rowW ws r).toNat * n ^ (pick ws (t : Int)).toNat := fun r => List.map_congr_left fun t ht => by
      have r0 := rowW_nn hw r
      have p0 := pick_nn hw (t : Int)
      rw [rowW_app, rowW_cons, rowW_nil, Int.add_zero, Int.toNat_add r0 p0, Int.pow_add]
    have c2 : ((List.range ws.length).map fun (t : Nat) => n ^ (pick ws (t : Int)).toNat).sum = cnt n ws := by
      unfold cnt
      conv => rhs; rw [← range_pick ws]
      rw [List.map_map]
      rfl
    rw [e, List.map_flatMap, sum_flatI]
    have c3 : ((rows ws.length m).map fun r => (((List.range ws.length).map fun (t : Nat) => r ++ [(t : Int)]).map fun r => n ^ (rowW ws r).toNat).sum) = (rows ws.length m).map fun r => cnt n ws * n ^ (rowW ws r).toNat := List.map_congr_left fun r _ => by
      rw [List.map_map]
      show ((List.range ws.length).map fun (t : Nat) => n ^ (rowW ws (r ++ [(t : Int)])).toNat).sum = _
      rw [c1 r, sum_mapL (fun (t : Nat) => n ^ (pick ws (t : Int)).toNat), c2, Int.mul_comm]
    rw [c3, sum_mapL, cnt_rows hw m, Int.pow_succ, Int.mul_comm]
theorem cnt_put {n : Int} {us ws : List Int} (hw : ∀ x ∈ ws, 0 ≤ x) : cnt n (putC us ws) = cnt (cnt n ws) us := by
  rw [putC_flat]
  show ((us.flatMap fun x => (rows ws.length x.toNat).map (rowW ws)).map fun x => n ^ x.toNat).sum = _
  rw [List.map_flatMap, sum_flatI]
  show _ = (us.map fun x => cnt n ws ^ x.toNat).sum
  congr 1
  refine List.map_congr_left fun x _ => ?_
  rw [List.map_map]
  exact cnt_rows hw x.toNat
/-! ### within the bounds -/
structure Fit (us ws : List Int) : Prop where
  n : cnt (ws.length : Int) us ≤ 30
  w : ∀ u ∈ us, ∀ y ∈ ws, u * y ≤ 12
theorem rowW_le {ws : List Int} {m : Int} (hm : ∀ y ∈ ws, y ≤ m) : ∀ r : List Int, Below (ws.length : Int) r → rowW ws r ≤ (r.length : Int) * m
  | [], _ => by rw [rowW_nil]; simp
  | t :: r, h => by
    obtain ⟨t0, t1, h'⟩ := below_cons h
    have := hm _ (List.mem_of_getElem? (pick_in t0 t1))
    have := rowW_le hm r h'
    rw [rowW_cons, List.length_cons, Int.natCast_add, Int.add_mul]
    show _ ≤ _ + 1 * m
    rw [Int.one_mul]
    omega
theorem Fit.small {us ws : List Int} (h : Fit us ws) (hu : Small us) (hw : Small ws) : Small (putC us ws) := fun x hx => by
  refine ⟨putC_nn (us := us) hw x hx, ?_⟩
  unfold putC at hx
  obtain ⟨q, hq, rfl⟩ := List.mem_map.mp hx
  obtain ⟨i, hi⟩ := List.getElem?_of_mem hq
  have fq := (fills_num hu hi).1
  by_cases h0 : q.2 = []
  · rw [h0, rowW_nil]; decide
  · have hne : 0 < ws.length := by
      cases hr : q.2 with
      | nil => exact absurd hr h0
      | cons t r =>
        have := fq.2.2.2 t (by rw [hr]; exact List.mem_cons_self)
        omega
    obtain ⟨m1, m2⟩ := maxI_mem (ns := ws) hne
    have := rowW_le m2 q.2 fq.2.2.2
    have := h.w _ (List.mem_of_getElem? fq.2.2.1) _ m1
    omega
theorem Fit.ok {us ws : List Int} (h : Fit us ws) (hu : Small us) (hw : Small ws) : PutOk us ws := by
  have l := putC_len ws hu
  have n := h.n
  exact ⟨by omega, crate_mk (h.small hu hw) (by omega)⟩
/-! ### regrouped done to fillings -/
theorem join3_map (a b c : List Int) (f : Int → Int) (D : Int × List (Int × List Int)) : join3 a b c (mapD f D) = mapD f (join3 a b c D) := by
  have e : ∀ p : Int × List Int, unpackI b c (p.1, p.2.map f) = mapD f (unpackI b c p) := fun p => unpack_map b c f p.1 p.2
  unfold join3 mapD
  simp only [List.map_map, List.flatMap_map, List.map_flatMap]
  refine Prod.ext ?_ ?_
  · show fnum _ _ (D.1, _) = fnum _ _ (D.1, _)
    congr 2
    refine List.map_congr_left fun p _ => ?_
    show (unpackI b c (p.1, p.2.map f)).1 = _
    rw [e]
    rfl
  · show D.2.flatMap _ = D.2.flatMap _
    refine congrArg (fun g => D.2.flatMap g) (funext fun p => ?_)
    show (unpackI b c (p.1, p.2.map f)).2 = _
    rw [e]
    rfl
theorem pick_self (p : Int × List Int) : p = (p.1, (iota ((p.2.length : Nat) : Int)).map (pick p.2)) := by
  refine Prod.ext rfl ?_
  show p.2 = _
  unfold iota
  rw [List.map_map, Int.toNat_natCast]
  exact (range_pick p.2).symm
theorem step_reg {a b c : List Int} {x : Int} {p : Int × List Int} (hp : FillOk x (putC a (putC b c)) p) : stepW (regW a b c) p = regI a b c p := by
  have g := idle_at hp.2.2.1
  rw [show ((p.1.toNat : Nat) : Int) = p.1 by have := hp.1; omega] at g
  have gp : (regW a b c)[p.1.toNat]? = some (regI a b c (p.1, iota ((p.2.length : Nat) : Int))) := by
    unfold regW
    rw [List.getElem?_map, g]
    rfl
  rw [step_some gp]
  conv => rhs; rw [pick_self p]
  unfold regI
  rw [unpack_map, join3_map, pack_map]
theorem reg_fill {a b c : List Int} {x : Int} {p : Int × List Int} (ha : Small a) (hb : Small b) (hc : Small c) (hab : Small (putC a b)) (hl : Small (putC b c)) (hp : FillOk x (putC a (putC b c)) p) : FillOk x (putC (putC a b) c) (regI a b c p) ∧ unpackI (putC a b) c (regI a b c p) = join3 a b c (unpackI a (putC b c) p) := by
  obtain ⟨_, _, _, _, _, dk, _⟩ := unpack_ok ha hl hp
  have jk := join3_ok ha hb hc dk
  exact ⟨pack_ok hab jk, unpack_pack hab jk⟩
/-! ### four layers -/
/-! ### regrouped ahead of ways and behind them -/
def splitG {α : Type} (ws : List Int) : List Int → List α → List (Int × List α)
  | [], _ => []
  | t :: r, xs => (t, xs.take (pick ws t).toNat) :: splitG ws r (xs.drop (pick ws t).toNat)
theorem splitG_map {α : Type} (ws : List Int) (f : Int → α) : ∀ (r xs : List Int), splitG ws r (xs.map f) = (splitI ws r xs).map fun p => (p.1, p.2.map f)
  | [], _ => rfl
  | t :: r, xs => by rw [splitG, splitI, List.map_cons, ← List.map_take, ← List.map_drop, splitG_map ws f r]
theorem splitG_join {α : Type} {ws : List Int} : ∀ {fs : List (Int × List α)}, (∀ p ∈ fs, ((p.2.length : Nat) : Int) = pick ws p.1) → splitG ws (fs.map Prod.fst) (fs.flatMap fun p => p.2) = fs
  | [], _ => rfl
  | (t, ds) :: fs, h => by
    have h1 : ((ds.length : Nat) : Int) = pick ws t := h _ List.mem_cons_self
    rw [List.map_cons, List.flatMap_cons, splitG]
    show (t, (ds ++ _).take (pick ws t).toNat) :: splitG ws (fs.map Prod.fst) ((ds ++ _).drop (pick ws t).toNat) = _
    rw [← h1, Int.toNat_natCast, List.take_left, List.drop_left, splitG_join fun p hp => h p (List.mem_cons_of_mem _ hp)]
theorem moved_core {a b c x y z : List Int} {n : Int} {v0 v1 v2 : List (Int × List Int)} {D : Int × List (Int × List Int)} (ha : Small a) (hb : Small b) (hc : Small c) (hy : Small y) (hz : Small z) (hbc : Small (putC b c)) (hab : Small (putC a b)) (w0 : WayOk a x v0) (w1 : WayOk b y v1) (w2 : WayOk c z v2) (h : DeepOk a (putC b c) n D) :
    join3 x y z (actI (putW b c y z v1 v2) (actO v0 D)) = actI v2 (actO (putW a b x y v0 v1) (join3 a b c D)) := by
  have dk : ∀ f ∈ D.2, DeepOk b c n (unpackI b c f) := fun f hf => by
    obtain ⟨_, _, _, _, _, dk, _⟩ := unpack_ok hb hc (h.2 f hf)
    exact dk
  have jk := join3_ok ha hb hc h
  have ff := (flat3_ok (a := a) hb hc h).1
  have fr : FillOk (b.length : Int) a (D.1, D.2.map fun f => (unpackI b c f).1) := by
    have e : ((flat3 b c D).1, (flat3 b c D).2.map Prod.fst) = (D.1, D.2.map fun f => (unpackI b c f).1) := by
      unfold flat3
      simp only [List.map_map]
      rfl
    rw [e] at ff
    exact ff
  have Ud : (splitI b (D.2.map fun f => (unpackI b c f).1) (iota (((join3 a b c D).2.length : Nat) : Int))).map (fun p => (p.1, p.2.map (pickP (join3 a b c D).2))) = D.2.map (unpackI b c) := by
    rw [← splitG_map, iota_pickP]
    have := splitG_join (ws := b) (fs := D.2.map (unpackI b c)) fun p hp => by
      obtain ⟨f, hf, rfl⟩ := List.mem_map.mp hp
      have := fill_pick (dk f hf).1
      rw [List.length_map] at this
      exact this
    rw [List.map_map, List.flatMap_map] at this
    exact this
  -- the plain filling of the tray that stands there
  have lenG : (putC a b)[(fnum (b.length : Int) a (D.1, D.2.map fun f => (unpackI b c f).1)).toNat]? = some (((join3 a b c D).2.length : Nat) : Int) := by
    have := jk.1.2.2.1
    rw [List.length_map] at this
    exact this
  have b0 := (fnum_bound (n := (b.length : Int)) (by omega) fr).1
  have gi := idle_at lenG
  rw [show (((fnum (b.length : Int) a (D.1, D.2.map fun f => (unpackI b c f).1)).toNat : Nat) : Int) = fnum (b.length : Int) a (D.1, D.2.map fun f => (unpackI b c f).1) by omega] at gi
  have fo := (idle_ok (fun x hx => (hab x hx).1)).2 _ _ _ gi lenG
  obtain ⟨_, _, _, _, _, ek, _⟩ := unpack_ok ha hb fo
  have eE : unpackI a b (fnum (b.length : Int) a (D.1, D.2.map fun f => (unpackI b c f).1), iota (((join3 a b c D).2.length : Nat) : Int)) = (D.1, splitI b (D.2.map fun f => (unpackI b c f).1) (iota (((join3 a b c D).2.length : Nat) : Int))) := unpackI_some (p := (fnum (b.length : Int) a (D.1, D.2.map fun f => (unpackI b c f).1), iota (((join3 a b c D).2.length : Nat) : Int))) (q := (D.1, D.2.map fun f => (unpackI b c f).1)) (fill_at ha fr)
  rw [eE] at ek
  have go : (putW a b x y v0 v1)[(join3 a b c D).1.toNat]? = some (packI x y (actI v1 (actO v0 (D.1, splitI b (D.2.map fun f => (unpackI b c f).1) (iota (((join3 a b c D).2.length : Nat) : Int)))))) := by
    unfold putW
    rw [List.getElem?_map, show (join3 a b c D).1 = fnum (b.length : Int) a (D.1, D.2.map fun f => (unpackI b c f).1) from rfl, gi]
    show some (packI x y (actI v1 (actO v0 (unpackI a b _)))) = _
    rw [eE]
  rw [actO_some go]
  obtain ⟨r, gr, frr⟩ := deep_at w0 h
  rw [actO_some gr]
  have gr2 : v0[((D.1, splitI b (D.2.map fun f => (unpackI b c f).1) (iota (((join3 a b c D).2.length : Nat) : Int))) : Int × List (Int × List Int)).1.toNat]? = some r := gr
  rw [actO_some gr2]
  generalize hG : (join3 a b c D).2 = G at *
  generalize hes : splitI b (D.2.map fun f => (unpackI b c f).1) (iota (G.length : Int)) = es at *
  have esl : es.length = D.2.length := by
    have := congrArg List.length Ud
    rw [List.length_map, List.length_map] at this
    exact this
  -- each of them
  have each : ∀ k ∈ r.2, unpackI y z (stepW (putW b c y z v1 v2) (pickP D.2 k)) = ((stepW v1 (pickP es k)).1, ((stepW v1 (pickP es k)).2.map (pickP G)).map (stepW v2)) := fun k hk => by
    obtain ⟨k0, k1⟩ := frr.2.2.2 k hk
    have gD := pickP_in (fs := D.2) k0 k1
    have gE := pickP_in (fs := es) k0 (by omega)
    have fm := List.mem_of_getElem? gD
    have em := List.mem_of_getElem? gE
    have q := congrArg (fun l => l[k.toNat]?) Ud
    simp only [List.getElem?_map] at q
    rw [gD, gE] at q
    have q : ((pickP es k).1, (pickP es k).2.map (pickP G)) = unpackI b c (pickP D.2 k) := Option.some.inj q
    generalize pickP D.2 k = f at gD fm q
    generalize pickP es k = e at gE em q
    have ke := ek.2 e em
    obtain ⟨s, hs, fs⟩ := way_at w1 ke
    rw [step_put hb hc w1 w2 (h.2 f fm), unpack_pack hy (actI_ok w2 (actO_ok w1 (dk f fm)))]
    rw [← q, actO_some (D := (e.1, e.2.map (pickP G))) hs, step_some hs]
    refine Prod.ext rfl ?_
    show (s.2.map (pickP (e.2.map (pickP G)))).map (stepW v2) = ((s.2.map (pick e.2)).map (pickP G)).map (stepW v2)
    congr 1
    rw [List.map_map]
    refine List.map_congr_left fun j hj => ?_
    obtain ⟨j0, j1⟩ := fs.2.2.2 j hj
    have p1 := pick_in (r := e.2) j0 j1
    have p2 := pickP_in (fs := e.2.map (pickP G)) j0 (by rw [List.length_map]; exact j1)
    rw [List.getElem?_map, p1] at p2
    exact (Option.some.inj p2).symm
  unfold join3 actI packI
  simp only [List.map_map, List.flatMap_map, List.map_flatMap]
  refine Prod.ext ?_ ?_
  · show fnum _ _ (r.1, _) = fnum _ _ (r.1, _)
    congr 2
    exact List.map_congr_left fun k hk => congrArg Prod.fst (each k hk)
  · have : ∀ l : List Int, (∀ k ∈ l, k ∈ r.2) → (l.flatMap fun k => (unpackI y z (stepW (putW b c y z v1 v2) (pickP D.2 k))).2) = l.flatMap fun k => ((stepW v1 (pickP es k)).2.map (pickP G)).map (stepW v2) := fun l => by
      induction l with
      | nil => intro _; rfl
      | cons f l ih =>
        intro hm
        rw [List.flatMap_cons, List.flatMap_cons, ih fun g hg => hm g (List.mem_cons_of_mem _ hg), each f (hm f List.mem_cons_self)]
    have t := this r.2 fun _ hk => hk
    simp only [List.map_map] at t
    exact t
theorem moved {a b c x y z : List Int} {v0 v1 v2 : List (Int × List Int)} (ha : Small a) (hb : Small b) (hc : Small c) (hx : Small x) (hy : Small y) (hz : Small z) (hbc : Small (putC b c)) (hab : Small (putC a b)) (hyz : Small (putC y z)) (hxy : Small (putC x y)) (w0 : WayOk a x v0) (w1 : WayOk b y v1) (w2 : WayOk c z v2) :
    thenW (putW a (putC b c) x (putC y z) v0 (putW b c y z v1 v2)) (regW x y z) = thenW (regW a b c) (putW (putC a b) c (putC x y) z (putW a b x y v0 v1) v2) := by
  have wi := put_ok hb hc hy w1 w2
  have wo := put_ok ha hb hx w0 w1
  unfold thenW
  conv => lhs; arg 2; unfold putW
  conv => rhs; arg 2; unfold regW
  rw [List.map_map, List.map_map]
  refine List.map_congr_left fun p hp => ?_
  obtain ⟨i, hi2, rfl⟩ := List.getElem_of_mem hp
  have hi3 : i < (putC a (putC b c)).length := by rw [← idle_len]; exact hi2
  have fo := (idle_ok (putC_nn (us := a) hbc)).2 i _ _ (List.getElem?_eq_getElem hi2) (List.getElem?_eq_getElem hi3)
  generalize (idleW (putC a (putC b c)))[i] = p at fo
  obtain ⟨q, _, _, _, _, dk, _⟩ := unpack_ok ha hbc fo
  show stepW (regW x y z) (packI x (putC y z) (actI (putW b c y z v1 v2) (actO v0 (unpackI a (putC b c) p)))) = stepW (putW (putC a b) c (putC x y) z (putW a b x y v0 v1) v2) (regI a b c p)
  have d2 := actI_ok wi (actO_ok w0 dk)
  have f2 := pack_ok hx d2
  obtain ⟨f3, u3⟩ := reg_fill ha hb hc hab hbc fo
  rw [step_reg f2, step_put hab hc wo w2 f3, u3]
  unfold regI
  rw [unpack_pack hx d2, moved_core ha hb hc hy hz hbc hab w0 w1 w2 dk]
/-! ### one well in the middle -/
noncomputable def F_marked : List PyData → Rs PyData := fn 4 (sRet (eTup (aCons (eVar 1) (aCons (eCB tupleD (aCons (eL (lLc [3] (iRg (rg1D (e2 ixD (eVar 0) (eVar 1)))) (gN 3) tY (eIf (tB' (e2 inD (eVar 3) (eVar 2))) (eC (.int 1)) (eC (.int 0))))) aNil)) aNil))))
noncomputable def F_one_to_one : List PyData → Rs PyData := fn 9 (sSeq (sSetD 2)
      (sSeq (sFor (iEnumD (eVar 1)) (gT 2 (gsC (gN 3) (gsC (gT 2 (gsC (gN 4) (gsC (gN 5) gsN))) gsN)))
      (sSeq (sSet 6 (eCall F_marked (aCons (eVar 0) (aCons (eVar 3) (aCons (eTup aNil) aNil)))))
      (sSeq (sIf (tB' (e2 inDctD (eVar 4) (eVarR 2)))
      (sRet (eTup (aCons (eC (.str "merged")) (aCons (eCall F_marked (aCons (eVar 0) (aCons (e2 getDctD (eVarR 2) (eVar 4)) (aCons (eTup aNil) aNil)))) (aCons (eVar 6) aNil)))))
      sNil)
      (sSeq (sPutD 2 (eVar 3) (eVar 4))
      (sSeq (sSet 7 (eL (lLc [8] (iRg (rg1D (e2 ixD (eVar 0) (eVar 3)))) (gN 8) (tB' (e2 notInD (eVar 8) (eVar 5))) (eVar 8))))
      (sIf (tTr (eVar 7))
      (sRet (eTup (aCons (eC (.str "merged")) (aCons (eVar 6) (aCons (eCall F_marked (aCons (eVar 0) (aCons (eVar 3) (aCons (eVar 7) aNil)))) aNil)))))
      sNil))))))
      (sRet (eTup (aCons (eC (.str "one to one")) aNil)))))
noncomputable def F_is_filling : List PyData → Rs PyData := fn 2 (sRet (eAnd (eCall F_is_crate (aCons (eVar 0) aNil)) (eCall F_fits (aCons (eVar 0) (aCons (eVar 1) aNil)))))
@[simp] theorem z_setD (ρ : Ev) (i : Nat) : sSetD i ρ = .ok (.nx (ρ.set i (some (true, dctD [])))) := rfl
@[simp] theorem q_inDct (kvs : List (Int × Int)) (k : Int) : inDctD (.int k) (dctD kvs) = .ok (.bool (lookI kvs k).isSome) := by
  unfold inDctD
  rw [asDct_of]
theorem q_getDct {kvs : List (Int × Int)} {k v : Int} (h : lookI kvs k = some v) : getDctD (dctD kvs) (.int k) = .ok (.int v) := by
  unfold getDctD
  rw [asDct_of]
  show (match lookI kvs k with | some v => Rs.ok (PyData.int v) | none => Rs.bad) = _
  rw [h]
theorem q_putD {ρ : Ev} {i : Nat} {fv fk : Ev → Rs PyData} {kvs : List (Int × Int)} {k v : Int} (h : ρ[i]? = some (some (true, dctD kvs))) (e1 : fv ρ = .ok (.int v)) (e2 : fk ρ = .ok (.int k)) (hl : kvs.length < lim) : sPutD i fv fk ρ = .ok (.nx (ρ.set i (some (true, dctD (putI kvs k v))))) := by
  unfold sPutD
  rw [e1, Rs.bind_ok, h]
  simp only [asDct_of, e2, Rs.bind_ok]
  exact if_pos hl
theorem q_lenSet {ns : List Int} (h : ns.length ≤ 4000) : lenSetD (cr ns) = .ok (.int ((dedI ns).length : Nat)) := by
  show (match asInts (ns.map PyData.int) with
    | some ns => @ite _ (ns.length ≤ 4000) (Classical.propDecidable _) (Rs.ok (PyData.int ((dedI ns).length : Nat))) .bad
    | none => .bad) = _
  rw [asInts_map]
  exact if_pos h
theorem look_put (kvs : List (Int × Int)) (k v j : Int) : lookI (putI kvs k v) j = if j = k then some v else lookI kvs j := by
  unfold putI
  by_cases h : (kvs.any fun p => decide (p.1 = k)) = true
  · rw [if_pos h]
    induction kvs with
    | nil => simp at h
    | cons p r ih =>
      unfold lookI at ih ⊢
      rw [List.map_cons, List.find?_cons, List.find?_cons]
      by_cases hp : p.1 = k
      · rw [if_pos hp]
        by_cases hj : j = k
        · rw [if_pos hj]
          have : decide ((p.1, v).1 = j) = true := decide_eq_true (by rw [hj]; exact hp)
          rw [this]
          rfl
        · rw [if_neg hj]
          have e : decide (p.1 = j) = false := decide_eq_false fun z => hj (by rw [← z]; exact hp)
          have : decide ((p.1, v).1 = j) = false := e
          rw [this]
          by_cases hr : (r.any fun p => decide (p.1 = k)) = true
          · have := ih hr
            rw [if_neg hj] at this
            exact this
          · have nk : r.map (fun p => if p.1 = k then (p.1, v) else p) = r := by
              refine (List.map_congr_left fun q hq => ?_).trans (List.map_id _)
              exact if_neg fun z => hr (List.any_eq_true.mpr ⟨q, hq, decide_eq_true z⟩)
            rw [nk]
      · rw [if_neg hp]
        have hr : (r.any fun p => decide (p.1 = k)) = true := by
          rw [List.any_cons, decide_eq_false hp, Bool.false_or] at h
          exact h
        have := ih hr
        by_cases hj : p.1 = j
        · rw [decide_eq_true hj]
          have hjk : ¬ j = k := fun z => hp (by rw [← z]; exact hj)
          rw [if_neg hjk]
        · rw [decide_eq_false hj]
          exact this
  · rw [if_neg h]
    unfold lookI
    rw [List.find?_append]
    by_cases hj : j = k
    · rw [if_pos hj, hj]
      have : kvs.find? (fun p => decide (p.1 = k)) = none := List.find?_eq_none.mpr fun q hq z => h (List.any_eq_true.mpr ⟨q, hq, z⟩)
      rw [this]
      simp
    · rw [if_neg hj]
      have : ([(k, v)] : List (Int × Int)).find? (fun p => decide (p.1 = j)) = none := by simp [Ne.symm hj]
      rw [this]
      simp
theorem put_len (kvs : List (Int × Int)) (k v : Int) : (putI kvs k v).length ≤ kvs.length + 1 := by
  unfold putI
  split
  · rw [List.length_map]; omega
  · rw [List.length_append]; simp
theorem inB_tup (n : Bool) (m : Int) (l : List Int) : inB n (.int m) (cr l) = .ok (.bool (n ^^ decide (m ∈ l))) := by
  have e : ((l.map PyData.int).any fun z => PyData.eqv z (.int m)) = decide (m ∈ l) := by
    induction l with
    | nil => simp
    | cons a l ih =>
      rw [List.map_cons, List.any_cons, ih]
      by_cases h : a = m
      · subst h; simp [PyData.eqv]
      · have h' : ¬ m = a := fun z => h z.symm
        simp [PyData.eqv, h, h']
  show (@ite _ _ (Classical.propDecidable _) _ _) = _
  rw [if_pos (by simp [flatDt]), e]
theorem in_tupI (m : Int) (l : List Int) : inD (.int m) (cr l) = .ok (.bool (decide (m ∈ l))) := by
  have := inB_tup false m l
  rw [Bool.false_xor] at this
  exact this
theorem notIn_tupI (m : Int) (l : List Int) : notInD (.int m) (cr l) = .ok (.bool (!decide (m ∈ l))) := by
  have := inB_tup true m l
  rw [Bool.true_xor] at this
  exact this
/-- the filling that marked tells -/
def markF (i x : Int) (l : List Int) : Int × List Int := (i, (iota x).map fun y => if y ∈ l then 1 else 0)
theorem marked_ok {ws : List Int} {i : Nat} {x : Int} {l : List Int} {L : PyData} (g : ws[i]? = some x) (x0 : 0 ≤ x) (x1 : x ≤ 10000) (hL : L = cr l ∨ L = .list (l.map PyData.int)) : F_marked [cr ws, .int (i : Int), L] = .ok (dPair (markF (i : Int) x l)) := by
  have ix : ixD (cr ws) (.int (i : Int)) = .ok (.int x) := q_ixT (at_get (by rw [List.getElem?_map, g]; rfl))
  have iL : ∀ m : Int, inD (.int m) L = .ok (.bool (decide (m ∈ l))) := fun m => by
    rcases hL with rfl | rfl
    · exact in_tupI m l
    · exact in_ints m l
  unfold F_marked
  refine fn_E (ρ := [some (false, cr ws), some (false, .int (i : Int)), some (false, L), none]) rfl ?_
  refine ret_R (d := dPair (markF (i : Int) x l)) ?_ rfl
  simp [ix, rgOk0 x0 (show x ≤ 16777216 by omega), rgD0, -List.map_map]
  rw [lc_mapE (enc := PyData.int) (out := PyData.int) (h := fun y : Int => if y ∈ l then (1 : Int) else 0) (xs := iota x)]
  rotate_left
  · intro y hy
    by_cases h : y ∈ l
    · simp [iL, h]
    · simp [iL, h]
  rw [cap_le (by simp [lim_eq, iota_len]; omega)]
  simp [-List.map_map, markF, dPair]
/-! ### onto -/
/-- a for that may return -/
theorem for_ROr {it : Ev → Rs (List PyData)} {g : PyData → Ev → Rs Ev} {b rest : Ev → Rs Out} {ρ : Ev} {ds : List PyData} {Φ : PyData → Prop} (hit : it ρ = .ok ds) (P : Nat → Ev → Prop) (R : PyData → Prop) (h0 : P 0 ρ) (hs : ∀ (i : Nat) d ρ, ds[i]? = some d → P i ρ → (∃ ρ', turn g b d ρ = .ok (.nx ρ') ∧ P (i + 1) ρ') ∨ (∃ z, turn g b d ρ = .ok (.ret z) ∧ R z)) (hk : ∀ ρ', P ds.length ρ' → Ret (rest ρ') Φ) (hr : ∀ z, R z → Φ z) : Ret (sSeq (sFor it g b) rest ρ) Φ := by
  rcases for_or (g := g) (b := b) P R (ds := ds) (k := 0) (ρ := ρ) h0 (fun i d ρ hd hP => by
    rw [Nat.zero_add] at hP ⊢
    exact hs i d ρ hd hP) with ⟨ρ', e, q⟩ | ⟨z, e, q⟩
  · rw [Nat.zero_add] at q
    exact seq_R (by rw [z_for, hit, bind_ok', e]) (hk ρ' q)
  · exact seq_Q (by rw [z_for, hit, bind_ok', e]) (hr z q)
/-- one turn, statement by statement, that may return -/
def Tor (r : Rs Out) (P : Ev → Prop) (R : PyData → Prop) : Prop := (∃ ρ', r = .ok (.nx ρ') ∧ P ρ') ∨ (∃ z, r = .ok (.ret z) ∧ R z)
theorem tor_turn {g : PyData → Ev → Rs Ev} {b : Ev → Rs Out} {d : PyData} {ρ ρ' : Ev} {P : Ev → Prop} {R : PyData → Prop} (h : g d ρ = .ok ρ') (k : Tor (b ρ') P R) : Tor (turn g b d ρ) P R := by
  unfold turn
  rw [h]
  exact k
theorem tor_seq {a b : Ev → Rs Out} {ρ ρ' : Ev} {P : Ev → Prop} {R : PyData → Prop} (h : a ρ = .ok (.nx ρ')) (k : Tor (b ρ') P R) : Tor (sSeq a b ρ) P R := by
  rw [z_seq, h]
  exact k
theorem tor_ret {a b : Ev → Rs Out} {ρ : Ev} {z : PyData} {P : Ev → Prop} {R : PyData → Prop} (h : a ρ = .ok (.ret z)) (k : R z) : Tor (sSeq a b ρ) P R := by
  rw [z_seq, h]
  exact .inr ⟨z, rfl, k⟩
/-! ### one to one -/
structure SingleW (ws : List Int) (wy : List (Int × List Int)) (i : Nat) : Prop where
  t : ∀ (m n : Nat) p q, m < n → n < i → wy[m]? = some p → wy[n]? = some q → p.1 ≠ q.1
  w : ∀ (m : Nat) p x, m < i → wy[m]? = some p → ws[m]? = some x → ∀ y, 0 ≤ y → y < x → y ∈ p.2
structure Srcs (wy : List (Int × List Int)) (i : Nat) (kvs : List (Int × Int)) : Prop where
  l : kvs.length ≤ i
  a : ∀ k s, lookI kvs k = some s → ∃ (m : Nat) (p : Int × List Int), s = (m : Int) ∧ m < i ∧ wy[m]? = some p ∧ p.1 = k
  b : ∀ (m : Nat) p, m < i → wy[m]? = some p → (lookI kvs p.1).isSome = true
def Merged (ws : List Int) (wy : List (Int × List Int)) (z : PyData) : Prop :=
  (∃ (s i : Nat) (p q : Int × List Int) (xs x : Int), s < i ∧ wy[s]? = some p ∧ wy[i]? = some q ∧ p.1 = q.1 ∧ ws[s]? = some xs ∧ ws[i]? = some x ∧ z = .tuple [.str "merged", dPair (markF (s : Int) xs []), dPair (markF (i : Int) x [])]) ∨
  (∃ (i : Nat) (q : Int × List Int) (x : Int), wy[i]? = some q ∧ ws[i]? = some x ∧ ((iota x).filter fun y => decide (y ∉ q.2)) ≠ [] ∧ z = .tuple [.str "merged", dPair (markF (i : Int) x []), dPair (markF (i : Int) x ((iota x).filter fun y => decide (y ∉ q.2)))])
theorem one_to_one_ok {ws us : List Int} {wy : List (Int × List Int)} (hw : Small ws) (hwl : ws.length ≤ 60) (ok : WayOk ws us wy) (h60 : ∀ p ∈ wy, p.2.length ≤ 4000) : ∃ d, F_one_to_one [cr ws, dWay wy] = .ok d ∧ ((d = .tuple [.str "one to one"] ∧ SingleW ws wy wy.length) ∨ Merged ws wy d) := by
  have wl := ok.1
  unfold F_one_to_one
  refine fn_R (ρ := [some (false, cr ws), some (false, dWay wy), none, none, none, none, none, none, none]) rfl ?_
  refine seq_R (ρ' := [some (false, cr ws), some (false, dWay wy), some (true, dctD []), none, none, none, none, none, none]) (by simp) ?_
  refine for_ROr (ds := enumG 0 (wy.map dPair)) (by simp [dWay]) (fun i ρ => ∃ (kvs : List (Int × Int)) (j3 j4 j5 j6 j7 j8 : Option (Bool × PyData)), Srcs wy i kvs ∧ SingleW ws wy i ∧ ρ = [some (false, cr ws), some (false, dWay wy), some (true, dctD kvs), j3, j4, j5, j6, j7, j8]) (Merged ws wy) ⟨[], none, none, none, none, none, none, ⟨Nat.le_refl _, fun k s h => (by cases h), fun m p h => absurd h (Nat.not_lt_zero _)⟩, ⟨fun m n p q _ h => absurd h (Nat.not_lt_zero _), fun m p x h => absurd h (Nat.not_lt_zero _)⟩, rfl⟩ ?_ ?_ (fun z h => .inr h)
  · intro i d ρ hd ⟨kvs, j3, j4, j5, j6, j7, j8, sr, sg, hρ⟩
    subst hρ
    obtain ⟨p, hp, rfl⟩ := enum_get hd
    have hi : i < wy.length := (List.getElem?_eq_some_iff.mp hp).1
    have gx : ws[i]? = some (ws[i]'(by omega)) := List.getElem?_eq_getElem (by omega)
    generalize ws[i]'(by omega) = x at gx
    obtain ⟨x0, x1⟩ := hw x (List.mem_of_getElem? gx)
    have mk := marked_ok (l := []) (L := .tuple []) gx x0 (by omega) (.inl rfl)
    refine tor_turn (ρ' := [some (false, cr ws), some (false, dWay wy), some (true, dctD kvs), some (false, .int (i : Int)), some (false, .int p.1), some (false, cr p.2), j6, j7, j8]) (by simp [dPair]) ?_
    refine tor_seq (ρ' := [some (false, cr ws), some (false, dWay wy), some (true, dctD kvs), some (false, .int (i : Int)), some (false, .int p.1), some (false, cr p.2), some (false, dPair (markF (i : Int) x [])), j7, j8]) (by simp [mk]) ?_
    cases hL : lookI kvs p.1 with
    | some s =>
      obtain ⟨m, p', rfl, hm, hp', he⟩ := sr.a _ _ hL
      have gm : ws[m]? = some (ws[m]'(by omega)) := List.getElem?_eq_getElem (by omega)
      generalize ws[m]'(by omega) = xs at gm
      obtain ⟨y0, y1⟩ := hw xs (List.mem_of_getElem? gm)
      have mk' := marked_ok (l := []) (L := .tuple []) gm y0 (by omega) (.inl rfl)
      have gd := q_getDct hL
      refine tor_ret (z := .tuple [.str "merged", dPair (markF (m : Int) xs []), dPair (markF (i : Int) x [])]) ?_ (.inl ⟨m, i, p', p, xs, x, hm, hp', hp, he, gm, gx, rfl⟩)
      have q1 := q_inDct kvs p.1
      rw [hL] at q1
      simp [q1, gd, mk', -q_inDct]
    | none =>
      have q1 := q_inDct kvs p.1
      rw [hL] at q1
      refine tor_seq (ρ' := [some (false, cr ws), some (false, dWay wy), some (true, dctD kvs), some (false, .int (i : Int)), some (false, .int p.1), some (false, cr p.2), some (false, dPair (markF (i : Int) x [])), j7, j8]) (by simp [q1, -q_inDct]) ?_
      have pt := q_putD (ρ := [some (false, cr ws), some (false, dWay wy), some (true, dctD kvs), some (false, .int (i : Int)), some (false, .int p.1), some (false, cr p.2), some (false, dPair (markF (i : Int) x [])), j7, j8]) (i := 2) (fv := eVar 3) (fk := eVar 4) (kvs := kvs) (k := p.1) (v := (i : Int)) rfl rfl rfl (by have := sr.l; rw [lim_eq]; omega)
      refine tor_seq (ρ' := [some (false, cr ws), some (false, dWay wy), some (true, dctD (putI kvs p.1 (i : Int))), some (false, .int (i : Int)), some (false, .int p.1), some (false, cr p.2), some (false, dPair (markF (i : Int) x [])), j7, j8]) (by rw [pt]; rfl) ?_
      have ix : ixD (cr ws) (.int (i : Int)) = .ok (.int x) := q_ixT (at_get (by rw [List.getElem?_map, gx]; rfl))
      refine tor_seq (ρ' := [some (false, cr ws), some (false, dWay wy), some (true, dctD (putI kvs p.1 (i : Int))), some (false, .int (i : Int)), some (false, .int p.1), some (false, cr p.2), some (false, dPair (markF (i : Int) x [])), some (false, .list (((iota x).filter fun y => decide (y ∉ p.2)).map PyData.int)), j8]) ?_ ?_
      · simp [ix, rgOk0 x0 (show x ≤ 16777216 by omega), rgD0, -List.map_map]
        rw [lc_flatE (enc := PyData.int) (h := fun y : Int => if decide (y ∉ p.2) then [PyData.int y] else []) (xs := iota x)]
        rotate_left
        · intro y hy
          have n1 := notIn_tupI y p.2
          by_cases h : y ∈ p.2
          · simp [n1, h]
          · simp [n1, h]
        rw [flat_filter (fun y => decide (y ∉ p.2))]
        rw [cap_le (by have := List.length_filter_le (fun y => decide (y ∉ p.2)) (iota x); rw [iota_len] at this; rw [List.length_map, lim_eq]; omega)]
        simp [-List.map_map]
      by_cases hE : ((iota x).filter fun y => decide (y ∉ p.2)) = []
      · rw [hE]
        refine .inl ⟨[some (false, cr ws), some (false, dWay wy), some (true, dctD (putI kvs p.1 (i : Int))), some (false, .int (i : Int)), some (false, .int p.1), some (false, cr p.2), some (false, dPair (markF (i : Int) x [])), some (false, .list (([] : List Int).map PyData.int)), j8], by simp [truD], putI kvs p.1 (i : Int), _, _, _, _, _, _, ⟨?_, fun k s hk => ?_, fun m q hm hq => ?_⟩, ⟨fun m n p' q hmn hn hp' hq => ?_, fun m q x' hm hq hx' y y0 y1 => ?_⟩, rfl⟩
        · have := put_len kvs p.1 (i : Int)
          have := sr.l
          omega
        · rw [look_put] at hk
          by_cases hkp : k = p.1
          · rw [if_pos hkp] at hk
            cases hk
            exact ⟨i, p, rfl, by omega, hp, hkp.symm⟩
          · rw [if_neg hkp] at hk
            obtain ⟨m, p', e1, e2, e3, e4⟩ := sr.a k s hk
            exact ⟨m, p', e1, by omega, e3, e4⟩
        · rw [look_put]
          by_cases hkp : q.1 = p.1
          · rw [if_pos hkp]
            rfl
          · rw [if_neg hkp]
            by_cases hmi : m = i
            · subst hmi
              rw [hp] at hq
              cases hq
              exact absurd rfl hkp
            · exact sr.b m q (by omega) hq
        · by_cases hni : n = i
          · subst hni
            rw [hp] at hq
            cases hq
            intro z
            have := sr.b m p' (by omega) hp'
            rw [z, hL] at this
            cases this
          · exact sg.t m n p' q hmn (by omega) hp' hq
        · by_cases hmi : m = i
          · subst hmi
            rw [hp] at hq
            cases hq
            rw [gx] at hx'
            cases hx'
            by_cases hy : y ∈ p.2
            · exact hy
            · have : y ∈ (iota x).filter fun y => decide (y ∉ p.2) := List.mem_filter.mpr ⟨iota_mem.mpr ⟨y0, y1⟩, decide_eq_true hy⟩
              rw [hE] at this
              cases this
          · exact sg.w m q x' (by omega) hq hx' y y0 y1
      · have mk' := marked_ok (l := (iota x).filter fun y => decide (y ∉ p.2)) (L := .list (((iota x).filter fun y => decide (y ∉ p.2)).map PyData.int)) gx x0 (by omega) (.inr rfl)
        refine .inr ⟨.tuple [.str "merged", dPair (markF (i : Int) x []), dPair (markF (i : Int) x ((iota x).filter fun y => decide (y ∉ p.2)))], ?_, .inr ⟨i, p, x, hp, gx, hE, rfl⟩⟩
        generalize ((iota x).filter fun y => decide (y ∉ p.2)) = lf at hE mk'
        have tr : truD (.list (lf.map PyData.int)) = .ok true := by
          cases lf with
          | nil => exact absurd rfl hE
          | cons y l => rfl
        simp [tr, mk', -List.map_map]
  · intro ρ' ⟨kvs, j3, j4, j5, j6, j7, j8, sr, sg, hρ⟩
    subst hρ
    rw [enumG_len, List.length_map] at sg
    exact ret_R (d := .tuple [.str "one to one"]) (by simp) (.inl ⟨rfl, sg⟩)
theorem merged_not {ws : List Int} {wy : List (Int × List Int)} {z : PyData} (h : Merged ws wy z) : ¬ SingleW ws wy wy.length ∧ ∃ d e, z = .tuple [.str "merged", d, e] := by
  rcases h with ⟨s, i, p, q, xs, x, hs, hp, hq, e, _, _, rfl⟩ | ⟨i, q, x, hq, hx, hE, rfl⟩
  · exact ⟨fun g => g.t s i p q hs (List.getElem?_eq_some_iff.mp hq).1 hp hq e, _, _, rfl⟩
  · refine ⟨fun g => hE (List.filter_eq_nil_iff.mpr fun y hy => ?_), _, _, rfl⟩
    obtain ⟨y0, y1⟩ := iota_below _ y hy
    have := g.w i q x (List.getElem?_eq_some_iff.mp hq).1 hq hx y y0 y1
    simp [this]
noncomputable def F_parting : List PyData → Rs PyData := fn 9 (sSeq (sFor (iEnumZipD (aCons (eVar 1) (aCons (eVar 2) aNil))) (gT 2 (gsC (gN 3) (gsC (gT 2 (gsC (gN 4) (gsC (gN 5) gsN))) gsN)))
      (sIf (tB' (e2 neD (eVar 4) (eVar 5)))
      (sSeq (sSet 6 (eL (lLc [7, 8] (iZipD (aCons (e2 ixD (eVar 4) (eC (.int 1))) (aCons (e2 ixD (eVar 5) (eC (.int 1))) aNil))) (gT 2 (gsC (gN 7) (gsC (gN 8) gsN))) (tB' (e2 neD (eVar 7) (eVar 8))) (eVar 7))))
      (sRet (eCall F_marked (aCons (eVar 0) (aCons (eVar 3) (aCons (eSl (eVar 6) eNoPart (ePart (eC (.int 1)))) aNil))))))
      sNil))
      (sRet (eC .none)))
@[simp] theorem z_enumZip (ρ : Ev) (f : Ev → Rs (List PyData)) : iEnumZipD f ρ = (f ρ).bind fun | [.tuple as, .tuple bs] => .ok (enumG 0 (zipD as bs)) | _ => .bad := rfl
/-! ### ways that are drawn: none only where no way leads -/
/-! ### parting -/
def ppart (p q : Int × List Int) : List Int := (((p.2.zip q.2).filter fun z => decide (z.1 ≠ z.2)).map Prod.fst).take 1
theorem neD_pair (p q : Int × List Int) : neD (dPair p) (dPair q) = .ok (.bool (!decide (p = q))) := by
  rw [q_ne ((gd_pair (n := 0) p).sh (by decide)) ((gd_pair (n := 0) q).sh (by decide)), eqv_pair]
theorem eqD_pair (p q : Int × List Int) : eqD (dPair p) (dPair q) = .ok (.bool (decide (p = q))) := by
  rw [q_eq ((gd_pair (n := 0) p).sh (by decide)) ((gd_pair (n := 0) q).sh (by decide)), eqv_pair]
theorem parting_ok {ws us : List Int} {v w : List (Int × List Int)} (hw : Small ws) (hu : Small us) (hv' : WayOk ws us v) (hw' : WayOk ws us w) : ∃ d, F_parting [cr ws, dWay v, dWay w] = .ok d ∧ ((d = .none ∧ v = w) ∨ (∃ (i : Nat) (p q : Int × List Int) (x : Int), v[i]? = some p ∧ w[i]? = some q ∧ ws[i]? = some x ∧ p ≠ q ∧ d = dPair (markF (i : Int) x (ppart p q)))) := by
  have l1 := hv'.1
  have l2 := hw'.1
  unfold F_parting
  refine fn_R (ρ := [some (false, cr ws), some (false, dWay v), some (false, dWay w), none, none, none, none, none, none]) rfl ?_
  refine for_ROr (ds := enumG 0 (zipD (v.map dPair) (w.map dPair))) (by simp [dWay]) (fun i ρ => ∃ j3 j4 j5 j6 j7 j8, (∀ m : Nat, m < i → v[m]? = w[m]?) ∧ ρ = [some (false, cr ws), some (false, dWay v), some (false, dWay w), j3, j4, j5, j6, j7, j8]) (fun z => ∃ (i : Nat) (p q : Int × List Int) (x : Int), v[i]? = some p ∧ w[i]? = some q ∧ ws[i]? = some x ∧ p ≠ q ∧ z = dPair (markF (i : Int) x (ppart p q))) ⟨none, none, none, none, none, none, fun m h => absurd h (Nat.not_lt_zero _), rfl⟩ ?_ ?_ (fun z h => .inr h)
  · intro i d ρ hd ⟨j3, j4, j5, j6, j7, j8, hs, hρ⟩
    subst hρ
    obtain ⟨e0, he, rfl⟩ := enumG_get hd
    obtain ⟨a, b, ha, hb, rfl⟩ := zipD_get he
    obtain ⟨p, hp, rfl⟩ := map_get' ha
    obtain ⟨q, hq, rfl⟩ := map_get' hb
    rw [Nat.zero_add]
    have hi : i < v.length := (List.getElem?_eq_some_iff.mp hp).1
    have gx : ws[i]? = some (ws[i]'(by omega)) := List.getElem?_eq_getElem _
    generalize ws[i]'(by omega) = x at gx
    obtain ⟨x0, x1⟩ := hw x (List.mem_of_getElem? gx)
    have fp : FillOk x us p := hv'.2 i p x hp gx
    have fq : FillOk x us q := hw'.2 i q x hq gx
    refine tor_turn (ρ' := [some (false, cr ws), some (false, dWay v), some (false, dWay w), some (false, .int (i : Int)), some (false, dPair p), some (false, dPair q), j6, j7, j8]) (by simp) ?_
    have nd := neD_pair p q
    by_cases hpq : p = q
    · refine .inl ⟨[some (false, cr ws), some (false, dWay v), some (false, dWay w), some (false, .int (i : Int)), some (false, dPair p), some (false, dPair q), j6, j7, j8], by rw [decide_eq_true hpq] at nd; simp [nd], _, _, _, _, _, _, fun m hm => ?_, rfl⟩
      by_cases hmi : m = i
      · rw [hmi, hp, hq, hpq]
      · exact hs m (by omega)
    · rw [decide_eq_false hpq] at nd
      have k1 : ∀ r : Int × List Int, ixD (dPair r) (.int 1) = .ok (cr r.2) := fun _ => rfl
      have p12 : p.2.length ≤ 12 := by have := hu _ (List.mem_of_getElem? fp.2.2.1); omega
      have zl : ((p.2.zip q.2).filter fun z => decide (z.1 ≠ z.2)).length ≤ 12 := by
        have := List.length_filter_le (fun z : Int × Int => decide (z.1 ≠ z.2)) (p.2.zip q.2)
        rw [List.length_zip] at this
        omega
      refine .inr ⟨dPair (markF (i : Int) x (ppart p q)), ?_, i, p, q, x, hp, hq, gx, hpq, rfl⟩
      rw [z_sIf]
      have tt : (tB' (e2 neD (eVar 4) (eVar 5))) [some (false, cr ws), some (false, dWay v), some (false, dWay w), some (false, .int (i : Int)), some (false, dPair p), some (false, dPair q), j6, j7, j8] = .ok true := by simp [nd]
      rw [tt, bind_ok', if_pos rfl]
      have st : (sSet 6 (eL (lLc [7, 8] (iZipD (aCons (e2 ixD (eVar 4) (eC (.int 1))) (aCons (e2 ixD (eVar 5) (eC (.int 1))) aNil))) (gT 2 (gsC (gN 7) (gsC (gN 8) gsN))) (tB' (e2 neD (eVar 7) (eVar 8))) (eVar 7)))) [some (false, cr ws), some (false, dWay v), some (false, dWay w), some (false, .int (i : Int)), some (false, dPair p), some (false, dPair q), j6, j7, j8] = .ok (.nx [some (false, cr ws), some (false, dWay v), some (false, dWay w), some (false, .int (i : Int)), some (false, dPair p), some (false, dPair q), some (false, .list ((((p.2.zip q.2).filter fun z => decide (z.1 ≠ z.2)).map Prod.fst).map PyData.int)), j7, j8]) := by
        simp [k1, zip_map, -List.map_map]
        rw [lc_flatE (enc := fun z : Int × Int => PyData.tuple [.int z.1, .int z.2]) (h := fun z : Int × Int => if decide (z.1 ≠ z.2) then [PyData.int z.1] else []) (xs := p.2.zip q.2)]
        rotate_left
        · intro z hz
          by_cases h : z.1 = z.2
          · simp [h]
          · simp [h]
        have ff : ∀ l : List (Int × Int), (l.flatMap fun z : Int × Int => if decide (z.1 ≠ z.2) then [PyData.int z.1] else []) = ((l.filter fun z => decide (z.1 ≠ z.2)).map Prod.fst).map PyData.int := fun l => by
          induction l with
          | nil => rfl
          | cons z l ih =>
            rw [List.flatMap_cons, ih, List.filter_cons]
            by_cases h : z.1 = z.2
            · simp [h]
            · simp [h]
        rw [ff, cap_le (by rw [List.length_map, List.length_map, lim_eq]; omega)]
        simp [-List.map_map]
      refine nx_seq st ?_
      have ct : cutD ((((p.2.zip q.2).filter fun z => decide (z.1 ≠ z.2)).map Prod.fst).map PyData.int) none (some 1) = (ppart p q).map PyData.int := by
        unfold ppart
        generalize ((p.2.zip q.2).filter fun z => decide (z.1 ≠ z.2)).map Prod.fst = l
        cases l with
        | nil => rfl
        | cons y l =>
          rw [cut_take (by decide) (by simp; omega), ← List.map_take]
          rfl
      have mk := marked_ok (l := ppart p q) (L := .list ((ppart p q).map PyData.int)) gx x0 (by omega) (.inr rfl)
      generalize ((p.2.zip q.2).filter fun z => decide (z.1 ≠ z.2)).map Prod.fst = Ls at ct ⊢
      simp [ct, mk, -List.map_map]
  · intro ρ' ⟨j3, j4, j5, j6, j7, j8, hs, hρ⟩
    subst hρ
    rw [enumG_len, zipD_len, List.length_map, List.length_map] at hs
    refine ret_R (d := .none) (by simp) (.inl ⟨rfl, List.ext_getElem? fun m => ?_⟩)
    by_cases hm : m < v.length
    · exact hs m (by omega)
    · rw [List.getElem?_eq_none (by omega), List.getElem?_eq_none (by omega)]
theorem mark_pick {i x : Int} {l : List Int} {y : Int} (y0 : 0 ≤ y) (y1 : y < x) : pick (markF i x l).2 y = if y ∈ l then 1 else 0 := by
  unfold pick markF
  rw [List.getD_eq_getElem?_getD]
  show (((iota x).map fun y => if y ∈ l then (1 : Int) else 0)[y.toNat]?).getD 0 = _
  rw [List.getElem?_map, iota_get (by omega)]
  show (if ((y.toNat : Nat) : Int) ∈ l then (1 : Int) else 0) = _
  rw [Int.toNat_of_nonneg y0]
/-- a filling that tells two pairs apart -/
theorem part_ne {us : List Int} {p q : Int × List Int} {i x : Int} (fp : FillOk x us p) (fq : FillOk x us q) (ne : p ≠ q) : (p.1, p.2.map (pick (markF i x (ppart p q)).2)) ≠ (q.1, q.2.map (pick (markF i x (ppart p q)).2)) := by
  intro z
  have e1 : p.1 = q.1 := (Prod.mk.inj z).1
  have e2 : p.2.map (pick (markF i x (ppart p q)).2) = q.2.map (pick (markF i x (ppart p q)).2) := (Prod.mk.inj z).2
  have ln : p.2.length = q.2.length := by
    have h1 := fp.2.2.1
    have h2 := fq.2.2.1
    rw [e1, h2] at h1
    have := Option.some.inj h1
    omega
  have ne2 : p.2 ≠ q.2 := fun h => ne (Prod.ext e1 h)
  -- the first place where they differ
  have key : ∀ (a b : List Int), a.length = b.length → a ≠ b → (∀ y ∈ a, 0 ≤ y ∧ y < x) → (∀ y ∈ b, 0 ≤ y ∧ y < x) → ∀ f : Int → Int, (∀ y, 0 ≤ y → y < x → f y = if y ∈ (((a.zip b).filter fun z => decide (z.1 ≠ z.2)).map Prod.fst).take 1 then 1 else 0) → a.map f ≠ b.map f := by
    intro a
    induction a with
    | nil =>
      intro b hl hn _ _ _ _
      cases b with
      | nil => exact absurd rfl hn
      | cons _ _ => simp at hl
    | cons s a ih =>
      intro b hl hn ha hb f hf h
      cases b with
      | nil => simp at hl
      | cons t b =>
        rw [List.map_cons, List.map_cons] at h
        obtain ⟨h1, h2⟩ := List.cons.inj h
        have hs := ha s List.mem_cons_self
        have ht := hb t List.mem_cons_self
        by_cases hst : s = t
        · subst hst
          refine ih b (by simpa using hl) (fun z => hn (by rw [z])) (fun y hy => ha y (List.mem_cons_of_mem _ hy)) (fun y hy => hb y (List.mem_cons_of_mem _ hy)) f (fun y y0 y1 => ?_) h2
          rw [hf y y0 y1, List.zip_cons_cons, List.filter_cons]
          simp
        · have e : (((s :: a).zip (t :: b)).filter fun z => decide (z.1 ≠ z.2)) = (s, t) :: ((a.zip b).filter fun z => decide (z.1 ≠ z.2)) := by
            rw [List.zip_cons_cons, List.filter_cons]
            simp [hst]
          have f1 := hf s hs.1 hs.2
          have f2 := hf t ht.1 ht.2
          rw [e] at f1 f2
          simp at f1 f2
          rw [if_neg (fun z => hst z.symm)] at f2
          rw [f1, f2] at h1
          exact absurd h1 (by decide)
  exact key p.2 q.2 ln ne2 fp.2.2.2 fq.2.2.2 _ (fun y y0 y1 => mark_pick y0 y1) e2
theorem mark_ok {ws : List Int} {i : Nat} {x : Int} {l : List Int} (gx : ws[i]? = some x) (x0 : 0 ≤ x) : FillOk 2 ws (markF (i : Int) x l) := by
  have hi := (List.getElem?_eq_some_iff.mp gx).1
  refine ⟨by show (0 : Int) ≤ (i : Int); omega, by show (i : Int) < _; omega, ?_, fun y hy => ?_⟩
  · show ws[((i : Int)).toNat]? = some ((((iota x).map fun y => if y ∈ l then (1 : Int) else 0).length : Nat) : Int)
    rw [Int.toNat_natCast, gx, List.length_map, iota_len, Int.toNat_of_nonneg x0]
  · obtain ⟨z, _, rfl⟩ := List.mem_map.mp (show y ∈ (iota x).map fun y => if y ∈ l then (1 : Int) else 0 from hy)
    split <;> omega
/-! ### a list handed in to be changed (a pen) -/
section
variable {S : Sx} {w : Bool}
/-! ### pen[j] -/
/-! ### pen[j] = e -/
/-! ### expressions that change a pen -/
def EZ (S : Sx) (B : Addr → Prop) (H0 : Hp) (N : Addr → Prop) (σ : L2.St) (H : Hp) (Q : VK) (E : XK) : Rs (PyData × Ev) → Prop
  | .bad => False
  | .err c => ∀ H', Same H0 H' → E (.ref (S.cls c)) none H'
  | .ok z => ∀ v H', Rep S.K B H0 N σ H' z.2 → KeepF N H N H' → Dd S.K N H' v z.1 → Q v H'
theorem EZ.from {B : Addr → Prop} {H0 : Hp} {N : Addr → Prop} {σ : L2.St} {H H' : Hp} {Q : VK} {E : XK} {r : Rs (PyData × Ev)} (kf : KeepF N H N H') (k : EZ S B H0 N σ H Q E r) : EZ S B H0 N σ H' Q E r := by
  cases r with
  | bad => exact k
  | err c => exact k
  | ok z => exact fun v H2 r2 k2 d => k v H2 r2 (kf.trans k2) d
def z2 (g : PyData → PyData → Rs PyData) (ga gb : Ev → Rs (PyData × Ev)) : Ev → Rs (PyData × Ev) := fun ρ => (ga ρ).bind fun a => (gb a.2).bind fun b => (g a.1 b.1).bind fun z => .ok (z, b.2)
/-! ### arguments -/
end
section
variable {S : Sx} {w : Bool}
/-! ### statements with expressions that change a pen -/
end
/-! ### defs with a pen as their first name -/
def spP (K : PySem.W.Frag) (cls : Str → Addr) (n : Nat) (F : List PyData → Rs (PyData × PyData)) : Sp := fun vs H Q E => ∃ (N : Addr → Prop) (a : Addr) (xs : List V) (ps : List PyData) (vs' : List V) (ds : List PyData), vs = .ref a :: vs' ∧ vs.length = n ∧ N a ∧ H a = some (.lst xs) ∧ DdAll K N H xs ps ∧ DdAll K N H vs' ds ∧ Told N H ∧
  match F (penD a ps :: ds) with
  | .bad => False
  | .err c => ∀ H', SameX a H H' → E (.ref (cls c)) none H'
  | .ok z => ∀ v H' xs' ps', z.2 = penD a ps' → SameX a H H' → H' a = some (.lst xs') → DdAll K N H' xs' ps' → Dd K N H' v z.1 → Q v H'
structure FdP (S : Gx) (k : Nat) (x : Str) (n : Nat) (F : List PyData → Rs (PyData × PyData)) : Prop where
  h : ∃ (f : Addr) (fd : FuncData) (ps : List Str), FnOk S.P S.w S.K S.mg S.base (L2.CX S.P S.w) k f fd ps (spP S.K S.cls n F) ∧ S.mg x = some (.ref f) ∧ PySem.W.keepIn S.K (.ref f) = true ∧ Binds S.K fd ps []
theorem FdP.mono {S : Gx} {j k : Nat} {x : Str} {n : Nat} {F : List PyData → Rs (PyData × PyData)} (h : FdP S j x n F) (l : j ≤ k) : FdP S k x n F := let ⟨f, fd, ps, G, r⟩ := h.h; ⟨f, fd, ps, G.mono l, r⟩
/-! ### a def that gives a new list -/
def spF (K : PySem.W.Frag) (cls : Str → Addr) (n : Nat) (F : List PyData → Rs (List PyData)) : Sp := fun vs H Q E => ∃ N ds, vs.length = n ∧ DdAll K N H vs ds ∧ Told N H ∧
  match F ds with
  | .bad => False
  | .err c => ∀ H', Same H H' → E (.ref (cls c)) none H'
  | .ok l => ∀ p xs H', Same H H' → H p = none → H' p = some (.lst xs) → DdAll K (fun a => N a ∨ a = p) H' xs l → Q (.ref p) H'
structure FdF (S : Gx) (k : Nat) (x : Str) (n : Nat) (F : List PyData → Rs (List PyData)) : Prop where
  h : ∃ (f : Addr) (fd : FuncData) (ps : List Str), FnOk S.P S.w S.K S.mg S.base (L2.CX S.P S.w) k f fd ps (spF S.K S.cls n F) ∧ S.mg x = some (.ref f) ∧ PySem.W.keepIn S.K (.ref f) = true ∧ Binds S.K fd ps []
theorem FdF.mono {S : Gx} {j k : Nat} {x : Str} {n : Nat} {F : List PyData → Rs (List PyData)} (h : FdF S j x n F) (l : j ≤ k) : FdF S k x n F := let ⟨f, fd, ps, G, r⟩ := h.h; ⟨f, fd, ps, G.mono l, r⟩
section
variable {S : Sx} {w : Bool}
/-! ### a pen of one's own, and what follows -/
/-! ### x.append(e) -/
end
section
variable {K : PySem.W.Frag} {B : Addr → Prop} {H0 : Hp} {N : Addr → Prop} {σ : L2.St} {H : Hp} {ρ : Ev}
/-- a list of the block's own is held fast -/
theorem Rep.pin {D : Addr} {acc : List V} (r : Rep K B H0 N σ H ρ) (h : H D = some (.lst acc)) (bD : B D) : Rep K B (upd H0 D (.lst acc)) N σ H ρ where
  len := r.len
  base := fun a o e => by
    by_cases z : a = D
    · subst z
      rw [upd_same] at e
      cases e
      exact h
    · rw [upd_ne z] at e
      exact r.base a o e
  told := r.told
  hB := r.hB
  frz := r.frz
  own := fun i d q => by
    obtain ⟨a, o, e1, e3, e4, e5, e6, e7⟩ := r.own i d q
    exact ⟨a, o, e1, e3, e4, by rw [upd_ne (fun z => e7 (by rw [z]; exact bD))]; exact e5, e6, e7⟩
  inj := r.inj
  inn := fun i d a b h hb => by
    obtain ⟨e1, e2, e3, e4, e5⟩ := r.inn i d a b h hb
    exact ⟨e1, by rw [upd_ne (fun z => e4 (by rw [z]; exact bD))]; exact e2, e3, e4, e5⟩
  one := r.one
end
section
variable {S : Sx} {w : Bool} {vs : List Nat}
/-! ### what is walked -/
/-! ### comprehensions -/
end
end Tm

namespace Tm
open PySem PySem.Spec PyProof.Rows L2
/-! ### a source of draws, handed to defs that draw -/
def SameX2 (a b : Addr) (H H' : Hp) : Prop := ∀ c o, c ≠ a → c ≠ b → H c = some o → H' c = some o
/-! ### defs with a source as their first name -/
def spS (K : PySem.W.Frag) (cls : Str → Addr) (n : Nat) (F : List PyData → Rs (PyData × PyData)) : Sp := fun vs H Q E => ∃ (N : Addr → Prop) (a b : Addr) (p : PyData) (vs' : List V) (ds : List PyData), vs = .ref a :: vs' ∧ vs.length = n ∧ N a ∧ N b ∧ a ≠ b ∧ TwoD K N H a b p ∧ DdAll K N H vs' ds ∧ Told N H ∧
  match F (p :: ds) with
  | .bad => False
  | .err c => ∀ H', SameX2 a b H H' → E (.ref (cls c)) none H'
  | .ok z => ∀ v H', SameX2 a b H H' → TwoD K N H' a b z.2 → Dd K N H' v z.1 → Q v H'
structure FdS (S : Gx) (k : Nat) (x : Str) (n : Nat) (F : List PyData → Rs (PyData × PyData)) : Prop where
  h : ∃ (f : Addr) (fd : FuncData) (ps : List Str), FnOk S.P S.w S.K S.mg S.base (L2.CX S.P S.w) k f fd ps (spS S.K S.cls n F) ∧ S.mg x = some (.ref f) ∧ PySem.W.keepIn S.K (.ref f) = true ∧ Binds S.K fd ps []
theorem FdS.mono {S : Gx} {j k : Nat} {x : Str} {n : Nat} {F : List PyData → Rs (PyData × PyData)} (h : FdS S j x n F) (l : j ≤ k) : FdS S k x n F := let ⟨f, fd, ps, G, r⟩ := h.h; ⟨f, fd, ps, G.mono l, r⟩
theorem TwoD.keep {K : PySem.W.Frag} {N N' : Addr → Prop} {H : Hp} {a b : Addr} {d : PyData} (h : TwoD K N H a b d) (k : KeepF N H N' H) : TwoD K N' H a b d := ⟨h.adr, let ⟨o, e, q⟩ := h.at_; ⟨o, e, q.keep k⟩, h.inn.keep k (fun _ z => z)⟩
section
variable {S : Sx} {w : Bool}
/-! ### the def that makes a source, and what follows -/
def spFS (K : PySem.W.Frag) (n : Nat) (F : List PyData → Rs (List Int × Int × Int)) : Sp := fun vs H Q _ => ∃ N ds, vs.length = n ∧ DdAll K N H vs ds ∧ Told N H ∧
  match F ds with
  | .bad => False
  | .err _ => False
  | .ok z => ∀ p q H', Same H H' → H p = none → H q = none → p ≠ q → H' p = some (.lst [.ref q, .int z.2.1, .int z.2.2]) → H' q = some (.lst (z.1.map V.int)) → Q (.ref p) H'
structure FdFS (S : Gx) (k : Nat) (x : Str) (n : Nat) (F : List PyData → Rs (List Int × Int × Int)) : Prop where
  h : ∃ (f : Addr) (fd : FuncData) (ps : List Str), FnOk S.P S.w S.K S.mg S.base (L2.CX S.P S.w) k f fd ps (spFS S.K n F) ∧ S.mg x = some (.ref f) ∧ PySem.W.keepIn S.K (.ref f) = true ∧ Binds S.K fd ps []
theorem FdFS.mono {S : Gx} {j k : Nat} {x : Str} {n : Nat} {F : List PyData → Rs (List Int × Int × Int)} (h : FdFS S j x n F) (l : j ≤ k) : FdFS S k x n F := let ⟨f, fd, ps, G, r⟩ := h.h; ⟨f, fd, ps, G.mono l, r⟩
end
/-! ### what a source gives -/
def finS (ns : List Int) (x y m : Int) : Int × List Int × Int × Int := if 0 < x then (x % m, ns, x / m, y) else ((y * y + 1000003) % 998244353 / 16 % m, ns, x, (y * y + 1000003) % 998244353)
def absI (n : Int) : Int := if n < 0 then -n else n
def nxtS (ns : List Int) (x y m : Int) : Int × List Int × Int × Int := if x = 0 then (match ns with
  | [] => finS [] x y m
  | n :: r => if absI n < 1000000000000000000 then (n % m, r, 0, y) else finS r (absI n) y m) else finS ns x y m
open Classical in
noncomputable def F_next : List PyData → Rs (PyData × PyData)
  | [s, .int m] => (match srcOf s with
    | some (a, b, ns, x, y) => if 0 ≤ x ∧ 0 < m ∧ m.natAbs.log2 < 9000 ∧ 0 ≤ y ∧ y < 998244353 then .ok (.int (nxtS ns x y m).1, srcD a b (nxtS ns x y m).2.1 (nxtS ns x y m).2.2.1 (nxtS ns x y m).2.2.2) else .bad
    | none => .bad)
  | _ => .bad
/-- a source as it stands with the laws: the number held and the seed -/
def SrcOk (a b : Addr) (p : PyData) : Prop := ∃ ns x y, p = srcD a b ns x y ∧ 0 ≤ x ∧ 0 ≤ y ∧ y < 998244353
theorem SrcOk.at {a b : Addr} {p : PyData} (h : SrcOk a b p) : ∃ z, adrOf p = some z := by
  obtain ⟨ns, x, y, rfl, _⟩ := h
  exact ⟨_, adrOf_src ..⟩
/-- all that is said of a source, in its words -/
theorem TwoD.src {K : PySem.W.Frag} {N : Addr → Prop} {H : Hp} {a b : Addr} {p : PyData} {ds : List PyData} (t : TwoD K N H a b p) (h : F_next (p :: ds) ≠ .bad) : ∃ ns x y, p = srcD a b ns x y ∧ H a = some (.lst [.ref b, .int x, .int y]) ∧ H b = some (.lst (ns.map V.int)) := by
  obtain ⟨o, e, k⟩ := t.at_
  have ha := t.adr
  have i := t.inn
  cases k with
  | lst _ => cases ha
  | dct _ => cases ha
  | pen _ => cases ha
  | desk m _ =>
    refine absurd ?_ h
    unfold F_next
    split
    · rename_i s m2 q
      cases q
      rfl
    · rfl
  | src ns x y =>
    rw [adrOf_src] at ha
    cases ha
    have hb : ∀ (d : PyData), d = srcD a b ns x y → InU K N H d b → H b = some (.lst (ns.map V.int)) := fun d e i => by
      cases i with
      | src ns' x' y' q =>
        have e := congrArg srcOf e
        rw [srcOf_of, srcOf_of] at e
        cases e
        exact q
      | desk q _ => cases e
    exact ⟨ns, x, y, rfl, e, hb _ rfl i⟩
/-! ### a tuple of the module -/
section
variable {S : Sx} {w : Bool}
/-! ### arithmetic that changes a pen -/
/-! ### [e ..] -/
/-! ### what is walked, with a pen -/
/-! ### x.pop(e), e with a pen -/
end
/-! ### tuples of which the object is known: tuple(a list), t.count(x) -/
section
variable {S : Sx} {w : Bool}
def tupleCD : List PyData → Rs PyData
  | [.list ds] => .ok (ctD ds)
  | _ => .bad
/-- t.count(x): ints -/
def cntD (ds : List PyData) (as : List PyData) : Rs PyData := match as with
  | [.int j] => match asInts ds with
    | some ns => .ok (.int ((ns.countP fun n => n == j : Nat) : Int))
    | none => .bad
  | _ => .bad
def eCnt (fo : Ev → Rs PyData) (fs : Ev → Rs (List PyData)) : Ev → Rs PyData := fun ρ => (fo ρ).bind fun
  | .dict [(.none, .tuple ds)] => (fs ρ).bind fun as => cntD ds as
  | _ => .bad
end
/-! ### zip of a list and a tuple -/
/-- how a zip of a tuple and a list stands ahead of its turn i -/
structure StandsLT (z TI TO i1 i2 a b : Addr) (i : Nat) (h : Heap) : Prop where
  zip : IsZip h z TI TO .none
  ins : IsPair h TI (.ref i1) (.ref i2)
  outs : ∃ x y, IsPair h TO x y
  one : h.IsListIter i1 a i
  two : h.IsTupleIter i2 b i
theorem StandsLT.lt {z TI TO i1 i2 a b : Addr} {i : Nat} {h : Heap} (t : StandsLT z TI TO i1 i2 a b i h) : ∀ c ∈ [z, TI, TO, i1, i2], c < h.objs.size :=
  five_all (Heap.lt_size t.zip) (Heap.lt_size t.ins) (let ⟨_, _, e⟩ := t.outs; Heap.lt_size e) (let ⟨_, e, _⟩ := t.one; Heap.lt_size e) (let ⟨_, e, _⟩ := t.two; Heap.lt_size e)
noncomputable def F_ways_many : List PyData → Rs PyData := fn 4 (sSeq (sSet 2 (eC (.int 1)))
      (sSeq (sFor (iItems (eVar 0)) (gN 3)
      (sSet 2 (e2 mulD (eVar 2) (eCall F_how_many (aCons (eVar 1) (aCons (eVar 3) aNil))))))
      (sRet (eVar 2))))
noncomputable def F_way_at : List PyData → Rs PyData := fn 6 (sSeq (sIf (tNot' (tB' (eChain leD ltD (eC (.int 0)) (eVar 2) (eCall F_ways_many (aCons (eVar 0) (aCons (eVar 1) aNil))))))
      (sRaise "NoNumber")
      sNil)
      (sSeq (sSetO 3 aNil)
      (sSeq (sFor (iItems (e1 revTD (eVar 0))) (gN 4)
      (sSeq (sAsg (eCB divmodD (aCons (eVar 2) (aCons (eCall F_how_many (aCons (eVar 1) (aCons (eVar 4) aNil))) aNil))) (gT 2 (gsC (gN 2) (gsC (gN 5) gsN))))
      (sMut 3 appM (aCons (eCall F_filling_at (aCons (eVar 1) (aCons (eVar 4) (aCons (eVar 5) aNil)))) aNil))))
      (sRet (eCB tupleD (aCons (e1 revLD (eVarR 3)) aNil))))))
noncomputable def F_widened : List PyData → Rs PyData := fn 2 (sRet (eCB tupleD (aCons (eL (lLc [1] (iItems (eVar 0)) (gN 1) tY (e2 addD (eVar 1) (eC (.int 1))))) aNil)))
noncomputable def F_renumbered : List PyData → Rs PyData := fn 5 (sRet (eCB tupleD (aCons (eL (lLc [2, 3] (iItems (eVar 0)) (gT 2 (gsC (gN 2) (gsC (gN 3) gsN))) tY (eTup (aCons (eVar 2) (aCons (eCB tupleD (aCons (eL (lLc [4] (iItems (eVar 3)) (gN 4) tY (e2 addD (eVar 4) (eVar 1)))) aNil)) aNil))))) aNil)))
noncomputable def F_row_at : List PyData → Rs PyData := fn 3 (sRet (eCall F_renumbered (aCons (eCall F_way_at (aCons (eCall F_widened (aCons (eVar 1) aNil)) (aCons (eVar 0) (aCons (eVar 2) aNil)))) (aCons (eC (.int (-1))) aNil))))
noncomputable def F_law_pairs : List PyData → Rs PyData := fn 10 (sSeq (sSetO 2 aNil)
      (sSeq (sFor (iEnumD (eVar 0)) (gT 2 (gsC (gN 3) (gsC (gN 4) gsN)))
      (sSeq (sSet 5 (eL (aCons (eTup aNil) aNil)))
      (sSeq (sFor (iRg (rg1D (eVar 4))) (gN 6)
      (sSeq (sSetO 7 aNil)
      (sSeq (sFor (iItems (eVar 5)) (gN 8)
      (sMut 7 extM (aCons (eL (lLc [9] (iRg (rg2D (e2 subD (eC (.int 0)) (eC (.int 1))) (eVar 1))) (gN 9) tY (e2 addD (eVar 8) (eTup (aCons (eVar 9) aNil))))) aNil)))
      (sFrz 7 (sSet 5 (eVar 7))))))
      (sMut 2 extM (aCons (eL (lLc [8] (iItems (eVar 5)) (gN 8) tY (eTup (aCons (eVar 3) (aCons (eVar 8) aNil))))) aNil)))))
      (sFrz 2 (sRet (eVar 2)))))
noncomputable def F_law_power_rows : List PyData → Rs PyData := fn 8 (sSeq (sSet 2 (eL (aCons (eTup aNil) aNil)))
      (sSeq (sFor (iItems (eVar 1)) (gN 3)
      (sSeq (sSet 4 (eCall F_law_pairs (aCons (eVar 0) (aCons (eVar 3) aNil))))
      (sSeq (sSetO 5 aNil)
      (sSeq (sFor (iItems (eVar 2)) (gN 6)
      (sMut 5 extM (aCons (eL (lLc [7] (iItems (eVar 4)) (gN 7) tY (e2 addD (eVar 6) (eTup (aCons (eVar 7) aNil))))) aNil)))
      (sFrz 5 (sSet 2 (eVar 5)))))))
      (sRet (eVar 2))))
noncomputable def F_law_open : List PyData → Rs PyData := fn 6 (sSeq (sSetO 1 aNil)
      (sSeq (sFor (iItems (eVar 0)) (gN 2)
      (sMut 1 appM (aCons (eCB sumD (aCons (eL (lLc [3, 4] (iItems (eVar 2)) (gT 2 (gsC (gN 3) (gsC (gN 4) gsN))) tY (eCB lenD (aCons (eL (lLc [5] (iItems (eVar 4)) (gN 5) (tB' (e2 ltD (eVar 5) (eC (.int 0)))) (eVar 5))) aNil)))) aNil)) aNil)))
      (sRet (eCB tupleD (aCons (eVarR 1) aNil)))))
/-! ### how pens are reckoned -/
section
variable (ρ : Ev)
@[simp] theorem z_z2 (g : PyData → PyData → Rs PyData) (a b : Ev → Rs (PyData × Ev)) : z2 g a b ρ = (a ρ).bind fun x => (b x.2).bind fun y => (g x.1 y.1).bind fun z => .ok (z, y.2) := rfl
end
/-! ### defs with pens -/
/-! ### the drawing -/
abbrev pn (ns : List Int) (at_ left : Int) : List PyData := [.list (ns.map PyData.int), .int at_, .int left]
def PenOk (ns : List Int) (m : Nat) (P : List PyData) : Prop := ∃ at_ left, P = pn ns at_ left ∧ 0 ≤ at_ ∧ at_ ≤ (m : Int)
theorem PenOk.mono {ns : List Int} {m k : Nat} {P : List PyData} (h : PenOk ns m P) (l : m ≤ k) : PenOk ns k P := by
  obtain ⟨a, b, e, h0, h1⟩ := h
  exact ⟨a, b, e, h0, by omega⟩
/-! ### a crate drawn -/
/-! ### a way drawn -/
/-! ### the same -/
theorem for_T {it : Ev → Rs (List PyData)} {g : PyData → Ev → Rs Ev} {b rest : Ev → Rs Out} {ρ : Ev} {ds : List PyData} {R : Ev → Prop} (hit : it ρ = .ok ds) (P : Nat → Ev → Prop) (h0 : P 0 ρ) (hs : ∀ (i : Nat) d ρ, ds[i]? = some d → P i ρ → Stp (turn g b d ρ) (P (i + 1))) (hk : ∀ ρ', P ds.length ρ' → Stp (rest ρ') R) : Stp (sSeq (sFor it g b) rest ρ) R := by
  obtain ⟨ρ', e, p⟩ := for_all P h0 hs
  refine stp_seq (ρ' := ρ') ?_ (hk ρ' p)
  rw [z_for, hit, bind_ok', e]
/-! ### rows of pairs -/
def sh (r : List Int) : List Int := r.map fun x => x + (-1)
def shP (p : Int × List Int) : Int × List Int := (p.1, sh p.2)
theorem rg2_ok {n : Nat} {f g : Ev → Rs PyData} {ρ : Ev} (hf : f ρ = .ok (.int (-1))) (hg : g ρ = .ok (.int ((n : Int) - 1))) (n1 : n ≤ 1000) : iRg (rg2D f g) ρ = .ok ((iota (n : Int)).map fun t => PyData.int (t + (-1))) := by
  have ok : rgOk (-1) ((n : Int) - 1) = true := by
    unfold rgOk
    rw [decide_eq_true (by decide), decide_eq_true (by decide), decide_eq_true (by omega), decide_eq_true (by omega), decide_eq_true (by omega)]
    rfl
  have e : rg2D f g ρ = .ok (-1, (n : Int) - 1) := by
    unfold rg2D
    rw [hf, bind_ok', hg, bind_ok']
    exact if_pos ok
  rw [z_iRg, e, bind_ok']
  unfold rgD iota
  rw [List.map_map]
  show Rs.ok ((List.range ((n : Int) - 1 - (-1)).toNat).map _) = Rs.ok ((List.range ((n : Int)).toNat).map _)
  rw [show ((n : Int) - 1 - (-1)).toNat = ((n : Int)).toNat by omega]
  refine congrArg Rs.ok (List.map_congr_left fun i _ => ?_)
  show PyData.int (-1 + (i : Int)) = PyData.int ((i : Int) + (-1))
  rw [Int.add_comm]
theorem pairs_ok {us : List Int} {n : Nat} (hu : ∀ x ∈ us, 0 ≤ x ∧ x ≤ 60) (hul : us.length ≤ 1000) (n0 : 1 ≤ n) (n1 : n ≤ 1000) (hc : cnt (n : Int) us ≤ 100000) : F_law_pairs [cr us, .int ((n : Int) - 1)] = .ok (.list (((fills n us us.length).map shP).map dPair)) := by
  have fl : ∀ i, i ≤ us.length → (fills n us i).length ≤ 100000 := fun i hi => by
    have h1 := fills_len (n := n) (ws := us) hi
    have h2 := cnt_take_le (n := (n : Int)) (by omega) us i
    omega
  unfold F_law_pairs
  refine fn_E (ρ := [some (false, cr us), some (false, .int ((n : Int) - 1)), none, none, none, none, none, none, none, none]) rfl ?_
  refine seq_R (ρ' := [some (false, cr us), some (false, .int ((n : Int) - 1)), some (true, .list []), none, none, none, none, none, none, none]) (by simp) ?_
  refine for_R (ds := enumG 0 (us.map PyData.int)) (by simp) (fun i ρ => ∃ (j3 j4 j5 j6 j7 j8 j9 : Option (Bool × PyData)), ρ = [some (false, cr us), some (false, .int ((n : Int) - 1)), some (true, .list (((fills n us i).map shP).map dPair)), j3, j4, j5, j6, j7, j8, j9]) ⟨none, none, none, none, none, none, none, rfl⟩ ?_ ?_
  · intro i d ρ hd ⟨j3, j4, j5, j6, j7, j8, j9, hρ⟩
    subst hρ
    obtain ⟨k, hk, rfl⟩ := enum_get hd
    have hi : i < us.length := (List.getElem?_eq_some_iff.mp hk).1
    obtain ⟨k0, k1⟩ := hu k (List.mem_of_getElem? hk)
    have hp : n ^ k.toNat ≤ 100000 := by
      have h1 := cnt_term (n := (n : Int)) (by omega) hk
      have h2 : ((n ^ k.toNat : Nat) : Int) = (n : Int) ^ k.toNat := Int.natCast_pow n _
      omega
    refine stp_turn (ρ' := [some (false, cr us), some (false, .int ((n : Int) - 1)), some (true, .list (((fills n us i).map shP).map dPair)), some (false, .int (i : Int)), some (false, .int k), j5, j6, j7, j8, j9]) (by simp) ?_
    refine stp_seq (ρ' := [some (false, cr us), some (false, .int ((n : Int) - 1)), some (true, .list (((fills n us i).map shP).map dPair)), some (false, .int (i : Int)), some (false, .int k), some (false, .list (((rows n 0).map sh).map cr)), j6, j7, j8, j9]) (by simp [rows, sh]) ?_
    refine for_T (ds := (iota k).map PyData.int) (by simp [rgOk0 k0 (show k ≤ 16777216 by omega), rgD0]) (fun m ρ => ∃ (j6 j7 j8 j9 : Option (Bool × PyData)), ρ = [some (false, cr us), some (false, .int ((n : Int) - 1)), some (true, .list (((fills n us i).map shP).map dPair)), some (false, .int (i : Int)), some (false, .int k), some (false, .list (((rows n m).map sh).map cr)), j6, j7, j8, j9]) ⟨j6, j7, j8, j9, rfl⟩ ?_ ?_
    · intro m d ρ hd ⟨j6, j7, j8, j9, hρ⟩
      subst hρ
      have hm := (List.getElem?_eq_some_iff.mp hd).1
      rw [List.length_map, iota_len] at hm
      have pm := pow_le_max (n := n) (show m + 1 ≤ k.toNat by omega)
      have pm0 := pow_le_max (n := n) (show m ≤ k.toNat by omega)
      refine stp_turn (ρ' := [some (false, cr us), some (false, .int ((n : Int) - 1)), some (true, .list (((fills n us i).map shP).map dPair)), some (false, .int (i : Int)), some (false, .int k), some (false, .list (((rows n m).map sh).map cr)), some (false, d), j7, j8, j9]) (by simp) ?_
      refine stp_seq (ρ' := [some (false, cr us), some (false, .int ((n : Int) - 1)), some (true, .list (((fills n us i).map shP).map dPair)), some (false, .int (i : Int)), some (false, .int k), some (false, .list (((rows n m).map sh).map cr)), some (false, d), some (true, .list []), j8, j9]) (by simp) ?_
      refine for_T (ds := ((rows n m).map sh).map cr) (by simp) (fun q ρ => ∃ (j8 j9 : Option (Bool × PyData)), ρ = [some (false, cr us), some (false, .int ((n : Int) - 1)), some (true, .list (((fills n us i).map shP).map dPair)), some (false, .int (i : Int)), some (false, .int k), some (false, .list (((rows n m).map sh).map cr)), some (false, d), some (true, .list ((((rows n m).take q).flatMap fun r => (iota (n : Int)).map fun t => sh (r ++ [t])).map cr)), j8, j9]) ⟨j8, j9, rfl⟩ ?_ ?_
      · intro q d2 ρ hd2 ⟨j8, j9, hρ⟩
        subst hρ
        obtain ⟨r', hr', rfl⟩ := map_get' hd2
        rw [List.getElem?_map] at hr'
        cases hr : (rows n m)[q]? with
        | none => rw [hr] at hr'; cases hr'
        | some r =>
          rw [hr] at hr'
          cases hr'
          have hq : q < (rows n m).length := (List.getElem?_eq_some_iff.mp hr).1
          have rl : r.length = m := (rows_mem (List.mem_of_getElem? hr)).1
          refine stp_turn (ρ' := [some (false, cr us), some (false, .int ((n : Int) - 1)), some (true, .list (((fills n us i).map shP).map dPair)), some (false, .int (i : Int)), some (false, .int k), some (false, .list (((rows n m).map sh).map cr)), some (false, d), some (true, .list ((((rows n m).take q).flatMap fun r => (iota (n : Int)).map fun t => sh (r ++ [t])).map cr)), some (false, cr (sh r)), j9]) (by simp) ?_
          have lc := lc_mapE (enc := fun t : Int => PyData.int (t + (-1))) (out := cr) (h := fun t => sh (r ++ [t])) (xs := iota (n : Int)) (bd := bd1 (gN 9) tY (e2 addD (eVar 8) (eTup (aCons (eVar 9) aNil))) [some (false, cr us), some (false, .int ((n : Int) - 1)), some (true, .list (((fills n us i).map shP).map dPair)), some (false, .int (i : Int)), some (false, .int k), some (false, .list (((rows n m).map sh).map cr)), some (false, d), some (true, .list ((((rows n m).take q).flatMap fun r => (iota (n : Int)).map fun t => sh (r ++ [t])).map cr)), some (false, cr (sh r)), none]) fun t ht => by
            have ad := q_addT (a := (sh r).map PyData.int) (b := [PyData.int (t + (-1))]) (by rw [List.length_map]; unfold sh; rw [List.length_map, rl, lim_eq, List.length_singleton]; omega)
            have e3 : cr (sh (r ++ [t])) = .tuple ((sh r).map PyData.int ++ [PyData.int (t + (-1))]) := by
              show PyData.tuple ((sh (r ++ [t])).map PyData.int) = _
              unfold sh
              rw [List.map_append, List.map_append]
              rfl
            rw [e3]
            simp only [z_bd1, z_gN, bind_ok', z_tY, if_true, z_2, z_var, z_tup, z_aCons, z_aNil]
            show ((addD (cr (sh r)) (.tuple [PyData.int (t + (-1))])).bind _) = _
            rw [show addD (cr (sh r)) (.tuple [PyData.int (t + (-1))]) = _ from ad]
            rfl
          have ll : lLc [9] (iRg (rg2D (e2 subD (eC (.int 0)) (eC (.int 1))) (eVar 1))) (gN 9) tY (e2 addD (eVar 8) (eTup (aCons (eVar 9) aNil))) [some (false, cr us), some (false, .int ((n : Int) - 1)), some (true, .list (((fills n us i).map shP).map dPair)), some (false, .int (i : Int)), some (false, .int k), some (false, .list (((rows n m).map sh).map cr)), some (false, d), some (true, .list ((((rows n m).take q).flatMap fun r => (iota (n : Int)).map fun t => sh (r ++ [t])).map cr)), some (false, cr (sh r)), j9] = .ok (((iota (n : Int)).map fun t => sh (r ++ [t])).map cr) := by
            rw [z_lLc, rg2_ok (n := n) (by simp) (by simp) n1, bind_ok']
            show cap (lcAll (bd1 _ _ _ [some (false, cr us), some (false, .int ((n : Int) - 1)), some (true, .list (((fills n us i).map shP).map dPair)), some (false, .int (i : Int)), some (false, .int k), some (false, .list (((rows n m).map sh).map cr)), some (false, d), some (true, .list ((((rows n m).take q).flatMap fun r => (iota (n : Int)).map fun t => sh (r ++ [t])).map cr)), some (false, cr (sh r)), none]) _) = _
            rw [lc]
            exact cap_le (by rw [List.length_map, List.length_map, iota_len, lim_eq]; omega)
          have len : ((((rows n m).take q).flatMap fun r => (iota (n : Int)).map fun t => sh (r ++ [t]))).length ≤ n ^ (m + 1) := by
            rw [flat_lenL]
            have e4 : (((rows n m).take q).map fun x => ((iota (n : Int)).map fun t => sh (x ++ [t])).length) = List.replicate q n := by
              rw [show (fun x : List Int => ((iota (n : Int)).map fun t => sh (x ++ [t])).length) = fun _ => n from funext fun x => by rw [List.length_map, iota_len]; omega]
              rw [List.map_const', List.length_take, Nat.min_eq_left (by omega)]
            rw [e4, List.sum_replicate_nat, Nat.pow_succ]
            have := rows_len n m
            exact Nat.mul_le_mul_right n (by omega)
          have ex := q_ext (ds := (((rows n m).take q).flatMap fun r => (iota (n : Int)).map fun t => sh (r ++ [t])).map cr) (es := ((iota (n : Int)).map fun t => sh (r ++ [t])).map cr) (by rw [List.length_map, List.length_map, List.length_map, iota_len, lim_eq]; omega)
          refine stp_of (ρ := [some (false, cr us), some (false, .int ((n : Int) - 1)), some (true, .list (((fills n us i).map shP).map dPair)), some (false, .int (i : Int)), some (false, .int k), some (false, .list (((rows n m).map sh).map cr)), some (false, d), some (true, .list ((((rows n m).take (q + 1)).flatMap fun r => (iota (n : Int)).map fun t => sh (r ++ [t])).map cr)), some (false, cr (sh r)), j9]) ?_ ⟨_, _, rfl⟩
          rw [z_mut]
          show ((aCons (eL _) aNil _).bind _) = _
          rw [z_aCons, z_L, ll]
          show (extM _ [.list _]).bind _ = _
          rw [ex, take_snoc hr, List.flatMap_append, List.map_append]
          simp
      · intro ρ ⟨j8, j9, hρ⟩
        subst hρ
        refine stp_of (ρ := [some (false, cr us), some (false, .int ((n : Int) - 1)), some (true, .list (((fills n us i).map shP).map dPair)), some (false, .int (i : Int)), some (false, .int k), some (false, .list (((rows n (m + 1)).map sh).map cr)), some (false, d), some (false, .list (((rows n (m + 1)).map sh).map cr)), j8, j9]) ?_ ⟨_, _, _, _, rfl⟩
        have e5 : (((rows n m).take (((rows n m).map sh).map cr).length).flatMap fun r => (iota (n : Int)).map fun t => sh (r ++ [t])) = (rows n (m + 1)).map sh := by
          rw [List.length_map, List.length_map, List.take_length]
          show _ = List.map sh ((rows n m).flatMap fun r => (List.range n).map fun (t : Nat) => r ++ [(t : Int)])
          rw [List.map_flatMap]
          unfold iota
          simp [List.map_map, Function.comp_def]
        rw [e5]
        simp [-List.map_map]
    · intro ρ ⟨j6, j7, j8, j9, hρ⟩
      subst hρ
      rw [List.length_map, iota_len]
      have lc := lc_mapE (enc := cr) (out := dPair) (h := fun r => ((i : Int), r)) (xs := (rows n k.toNat).map sh) (bd := bd1 (gN 8) tY (eTup (aCons (eVar 3) (aCons (eVar 8) aNil))) [some (false, cr us), some (false, .int ((n : Int) - 1)), some (true, .list (((fills n us i).map shP).map dPair)), some (false, .int (i : Int)), some (false, .int k), some (false, .list (((rows n k.toNat).map sh).map cr)), j6, j7, none, j9]) fun r hr => by
        simp [dPair]
      have ll : lLc [8] (iItems (eVar 5)) (gN 8) tY (eTup (aCons (eVar 3) (aCons (eVar 8) aNil))) [some (false, cr us), some (false, .int ((n : Int) - 1)), some (true, .list (((fills n us i).map shP).map dPair)), some (false, .int (i : Int)), some (false, .int k), some (false, .list (((rows n k.toNat).map sh).map cr)), j6, j7, j8, j9] = .ok ((((rows n k.toNat).map sh).map fun r => ((i : Int), r)).map dPair) := by
        have i2 : iItems (eVar 5) [some (false, cr us), some (false, .int ((n : Int) - 1)), some (true, .list (((fills n us i).map shP).map dPair)), some (false, .int (i : Int)), some (false, .int k), some (false, .list (((rows n k.toNat).map sh).map cr)), j6, j7, j8, j9] = .ok (((rows n k.toNat).map sh).map cr) := rfl
        rw [z_lLc, i2, bind_ok']
        show cap (lcAll (bd1 _ _ _ [some (false, cr us), some (false, .int ((n : Int) - 1)), some (true, .list (((fills n us i).map shP).map dPair)), some (false, .int (i : Int)), some (false, .int k), some (false, .list (((rows n k.toNat).map sh).map cr)), j6, j7, none, j9]) _) = _
        rw [lc]
        exact cap_le (by rw [List.length_map, List.length_map, List.length_map, rows_len, lim_eq]; omega)
      have f1 := fills_succ n us i
      have o1 : one n us i = (rows n k.toNat).map fun r => ((i : Int), r) := by
        unfold one
        rw [List.getD_eq_getElem?_getD, hk]
        rfl
      have l1 := fl i (by omega)
      have ex := q_ext (ds := ((fills n us i).map shP).map dPair) (es := (((rows n k.toNat).map sh).map fun r => ((i : Int), r)).map dPair) (by rw [List.length_map, List.length_map, List.length_map, List.length_map, List.length_map, rows_len, lim_eq]; omega)
      refine stp_of (ρ := [some (false, cr us), some (false, .int ((n : Int) - 1)), some (true, .list (((fills n us (i + 1)).map shP).map dPair)), some (false, .int (i : Int)), some (false, .int k), some (false, .list (((rows n k.toNat).map sh).map cr)), j6, j7, j8, j9]) ?_ ⟨_, _, _, _, _, _, _, rfl⟩
      rw [z_mut]
      show ((aCons (eL _) aNil _).bind _) = _
      rw [z_aCons, z_L, ll]
      show (extM _ [.list _]).bind _ = _
      have e6 : ((rows n k.toNat).map sh).map (fun r => ((i : Int), r)) = ((rows n k.toNat).map fun r => ((i : Int), r)).map shP := by
        rw [List.map_map, List.map_map]
        rfl
      rw [ex, f1, o1, e6, List.map_append, List.map_append]
      rfl
  · intro ρ ⟨j3, j4, j5, j6, j7, j8, j9, hρ⟩
    subst hρ
    rw [enumG_len, List.length_map]
    exact ⟨_, by simp [-List.map_map], rfl⟩
/-! ### all rows -/
def powW (us : List Int) (ns : List Nat) : List (List (Int × List Int)) := ns.foldl (fun acc n => acc.flatMap fun row => (fills n us us.length).map fun p => row ++ [p]) [[]]
def nsOf (low : List Int) : List Nat := low.map fun x => (x + 1).toNat
def powR (us low : List Int) : List (List (Int × List Int)) := (powW us (nsOf low)).map (List.map shP)
def pmZ (us low : List Int) : Int := low.foldl (fun a s => a * cnt (s + 1) us) 1
theorem powW_snoc (us : List Int) (ns : List Nat) (n : Nat) : powW us (ns ++ [n]) = (powW us ns).flatMap fun row => (fills n us us.length).map fun p => row ++ [p] := by
  unfold powW
  rw [List.foldl_append]
  rfl
theorem nsOf_snoc (low : List Int) (s : Int) : nsOf (low ++ [s]) = nsOf low ++ [(s + 1).toNat] := by unfold nsOf; rw [List.map_append]; rfl
theorem pmZ_snoc (us low : List Int) (s : Int) : pmZ us (low ++ [s]) = pmZ us low * cnt (s + 1) us := by
  unfold pmZ
  rw [List.foldl_append]
  rfl
theorem powR_snoc (us low : List Int) (s : Int) : powR us (low ++ [s]) = (powR us low).flatMap fun row => ((fills (s + 1).toNat us us.length).map shP).map fun p => row ++ [p] := by
  unfold powR
  rw [nsOf_snoc, powW_snoc, List.map_flatMap, List.flatMap_map]
  refine congrArg (fun f => (powW us (nsOf low)).flatMap f) (funext fun row => ?_)
  rw [List.map_map, List.map_map]
  refine List.map_congr_left fun p _ => ?_
  show List.map shP (row ++ [p]) = List.map shP row ++ [shP p]
  rw [List.map_append]
  rfl
theorem snoc_ind {α : Type} {P : List α → Prop} (h0 : P []) (hs : ∀ l x, P l → P (l ++ [x])) : ∀ l, P l := fun l => by
  have : ∀ r : List α, P r.reverse := fun r => by
    induction r with
    | nil => exact h0
    | cons x r ih => rw [List.reverse_cons]; exact hs _ _ ih
  have h := this l.reverse
  rw [List.reverse_reverse] at h
  exact h
theorem powR_len {us : List Int} : ∀ low : List Int, (∀ x ∈ low, 0 ≤ x) → ((powR us low).length : Int) = pmZ us low := by
  refine snoc_ind (fun _ => rfl) fun l s ih h => ?_
  have ih := ih fun x hx => h x (List.mem_append_left _ hx)
  have s0 := h s (List.mem_append_right _ List.mem_cons_self)
  rw [powR_snoc, pmZ_snoc, flat_lenL]
  rw [show (fun row : List (Int × List Int) => (((fills (s + 1).toNat us us.length).map shP).map fun p => row ++ [p]).length) = fun _ => (fills (s + 1).toNat us us.length).length from funext fun row => by rw [List.length_map, List.length_map]]
  rw [List.map_const', List.sum_replicate_nat]
  have fl := fills_len (n := (s + 1).toNat) (ws := us) (Nat.le_refl us.length)
  rw [List.take_length, show (((s + 1).toNat : Nat) : Int) = s + 1 by omega] at fl
  rw [Int.natCast_mul, ih, fl]
theorem powR_row {us : List Int} : ∀ low : List Int, ∀ row ∈ powR us low, row.length = low.length := by
  refine snoc_ind (fun row h => ?_) fun l s ih row h => ?_
  · have h : row ∈ ([[]] : List (List (Int × List Int))) := h
    rw [List.mem_singleton.mp h]
    rfl
  · rw [powR_snoc] at h
    obtain ⟨r, hr, h2⟩ := List.mem_flatMap.mp h
    obtain ⟨p, hp, rfl⟩ := List.mem_map.mp h2
    rw [List.length_append, List.length_append, ih r hr]
    rfl
/-- what is in a row -/
theorem powR_pairs {us : List Int} (hu : Small us) : ∀ low : List Int, ∀ row ∈ powR us low, ∀ p ∈ row, 0 ≤ p.1 ∧ p.1 < (us.length : Int) ∧ us[p.1.toNat]? = some ((p.2.length : Nat) : Int) ∧ ∀ x ∈ p.2, -1 ≤ x := by
  refine snoc_ind (fun row h p hp => ?_) fun l s ih row h p hp => ?_
  · have h : row ∈ ([[]] : List (List (Int × List Int))) := h
    rw [List.mem_singleton.mp h] at hp
    cases hp
  · rw [powR_snoc] at h
    obtain ⟨r, hr, h2⟩ := List.mem_flatMap.mp h
    obtain ⟨p', hp', rfl⟩ := List.mem_map.mp h2
    rcases List.mem_append.mp hp with hp | hp
    · exact ih r hr p hp
    · rw [List.mem_singleton.mp hp]
      obtain ⟨q, hq, rfl⟩ := List.mem_map.mp hp'
      obtain ⟨a1, a2, a3, a4⟩ := fills_mem (Nat.le_refl us.length) hu hq
      refine ⟨a1, a2, ?_, fun x hx => ?_⟩
      · show us[q.1.toNat]? = some (((sh q.2).length : Nat) : Int)
        unfold sh
        rw [List.length_map]
        exact a3
      · obtain ⟨y, hy, rfl⟩ := List.mem_map.mp hx
        have := a4 y hy
        show -1 ≤ y + (-1)
        omega
theorem power_rows_ok {us low : List Int} (hu : Small us) (hul : us.length ≤ 60) (hlow : ∀ x ∈ low, 0 ≤ x ∧ x ≤ 900) (hll : low.length ≤ 1000) (hcs : ∀ x ∈ low, cnt (x + 1) us ≤ 100000) (hb : ∀ i, i ≤ low.length → (powR us (low.take i)).length ≤ 100000) : F_law_power_rows [cr us, cr low] = .ok (.list ((powR us low).map dWay)) := by
  unfold F_law_power_rows
  refine fn_E (ρ := [some (false, cr us), some (false, cr low), none, none, none, none, none, none]) rfl ?_
  refine seq_R (ρ' := [some (false, cr us), some (false, cr low), some (false, .list ((powR us []).map dWay)), none, none, none, none, none]) (by simp; rfl) ?_
  refine for_R (ds := low.map PyData.int) (by simp) (fun i ρ => ∃ (j3 j4 j5 j6 j7 : Option (Bool × PyData)), ρ = [some (false, cr us), some (false, cr low), some (false, .list ((powR us (low.take i)).map dWay)), j3, j4, j5, j6, j7]) ⟨none, none, none, none, none, rfl⟩ ?_ ?_
  · intro i d ρ hd ⟨j3, j4, j5, j6, j7, hρ⟩
    subst hρ
    obtain ⟨s, hs, rfl⟩ := map_get' hd
    have hi : i < low.length := (List.getElem?_eq_some_iff.mp hs).1
    obtain ⟨s0, s1⟩ := hlow s (List.mem_of_getElem? hs)
    have cs := hcs s (List.mem_of_getElem? hs)
    have po := pairs_ok (us := us) (n := (s + 1).toNat) (fun x hx => ⟨(hu x hx).1, by have := (hu x hx).2; omega⟩) (by omega) (by omega) (by omega) (by rw [show (((s + 1).toNat : Nat) : Int) = s + 1 by omega]; exact cs)
    rw [show (((s + 1).toNat : Nat) : Int) - 1 = s by omega] at po
    have b1 := hb i (by omega)
    have b2 := hb (i + 1) (by omega)
    rw [take_snoc hs, powR_snoc] at b2
    rw [take_snoc hs, powR_snoc]
    have rw0 : ∀ row ∈ powR us (low.take i), row.length ≤ 1000 := fun row hr => by
      rw [powR_row _ row hr, List.length_take]
      omega
    generalize powR us (low.take i) = R at b1 b2 rw0
    generalize (fills (s + 1).toNat us us.length).map shP = prs at po b2
    refine stp_turn (ρ' := [some (false, cr us), some (false, cr low), some (false, .list (R.map dWay)), some (false, .int s), j4, j5, j6, j7]) (by simp) ?_
    refine stp_seq (ρ' := [some (false, cr us), some (false, cr low), some (false, .list (R.map dWay)), some (false, .int s), some (false, .list (prs.map dPair)), j5, j6, j7]) (by simp [po]) ?_
    refine stp_seq (ρ' := [some (false, cr us), some (false, cr low), some (false, .list (R.map dWay)), some (false, .int s), some (false, .list (prs.map dPair)), some (true, .list []), j6, j7]) (by simp) ?_
    refine for_T (ds := R.map dWay) (by simp) (fun q ρ => ∃ (j6 j7 : Option (Bool × PyData)), ρ = [some (false, cr us), some (false, cr low), some (false, .list (R.map dWay)), some (false, .int s), some (false, .list (prs.map dPair)), some (true, .list (((R.take q).flatMap fun row => prs.map fun p => row ++ [p]).map dWay)), j6, j7]) ⟨j6, j7, rfl⟩ ?_ ?_
    · intro q d2 ρ hd2 ⟨j6, j7, hρ⟩
      subst hρ
      obtain ⟨row, hr, rfl⟩ := map_get' hd2
      have rl := rw0 row (List.mem_of_getElem? hr)
      refine stp_turn (ρ' := [some (false, cr us), some (false, cr low), some (false, .list (R.map dWay)), some (false, .int s), some (false, .list (prs.map dPair)), some (true, .list (((R.take q).flatMap fun row => prs.map fun p => row ++ [p]).map dWay)), some (false, dWay row), j7]) (by simp) ?_
      have lc := lc_mapE (enc := dPair) (out := dWay) (h := fun p => row ++ [p]) (xs := prs) (bd := bd1 (gN 7) tY (e2 addD (eVar 6) (eTup (aCons (eVar 7) aNil))) [some (false, cr us), some (false, cr low), some (false, .list (R.map dWay)), some (false, .int s), some (false, .list (prs.map dPair)), some (true, .list (((R.take q).flatMap fun row => prs.map fun p => row ++ [p]).map dWay)), some (false, dWay row), none]) fun p hp => by
        have ad := q_addT (a := row.map dPair) (b := [dPair p]) (by rw [List.length_map, lim_eq, List.length_singleton]; omega)
        have e3 : dWay (row ++ [p]) = .tuple (row.map dPair ++ [dPair p]) := by
          unfold dWay
          rw [List.map_append]
          rfl
        rw [e3]
        simp only [z_bd1, z_gN, bind_ok', z_tY, if_true, z_2, z_var, z_tup, z_aCons, z_aNil]
        show ((addD (dWay row) (.tuple [dPair p])).bind _) = _
        rw [show addD (dWay row) (.tuple [dPair p]) = _ from ad]
        rfl
      have sub : ((R.take (q + 1)).flatMap fun row => prs.map fun p => row ++ [p]).length ≤ 100000 := by
        have e7 : R.flatMap (fun row => prs.map fun p => row ++ [p]) = (R.take (q + 1)).flatMap (fun row => prs.map fun p => row ++ [p]) ++ (R.drop (q + 1)).flatMap (fun row => prs.map fun p => row ++ [p]) := by
          rw [← List.flatMap_append, List.take_append_drop]
        rw [e7, List.length_append] at b2
        omega
      rw [take_snoc hr, List.flatMap_append] at sub ⊢
      rw [List.flatMap_cons, List.flatMap_nil, List.append_nil] at sub ⊢
      rw [List.length_append] at sub
      have ll : lLc [7] (iItems (eVar 4)) (gN 7) tY (e2 addD (eVar 6) (eTup (aCons (eVar 7) aNil))) [some (false, cr us), some (false, cr low), some (false, .list (R.map dWay)), some (false, .int s), some (false, .list (prs.map dPair)), some (true, .list (((R.take q).flatMap fun row => prs.map fun p => row ++ [p]).map dWay)), some (false, dWay row), j7] = .ok ((prs.map fun p => row ++ [p]).map dWay) := by
        have i2 : iItems (eVar 4) [some (false, cr us), some (false, cr low), some (false, .list (R.map dWay)), some (false, .int s), some (false, .list (prs.map dPair)), some (true, .list (((R.take q).flatMap fun row => prs.map fun p => row ++ [p]).map dWay)), some (false, dWay row), j7] = .ok (prs.map dPair) := rfl
        rw [z_lLc, i2, bind_ok']
        show cap (lcAll (bd1 _ _ _ [some (false, cr us), some (false, cr low), some (false, .list (R.map dWay)), some (false, .int s), some (false, .list (prs.map dPair)), some (true, .list (((R.take q).flatMap fun row => prs.map fun p => row ++ [p]).map dWay)), some (false, dWay row), none]) _) = _
        rw [lc]
        exact cap_le (by rw [List.length_map, lim_eq]; omega)
      have ex := q_ext (ds := ((R.take q).flatMap fun row => prs.map fun p => row ++ [p]).map dWay) (es := (prs.map fun p => row ++ [p]).map dWay) (by rw [List.length_map, List.length_map, lim_eq]; omega)
      refine stp_of (ρ := [some (false, cr us), some (false, cr low), some (false, .list (R.map dWay)), some (false, .int s), some (false, .list (prs.map dPair)), some (true, .list ((((R.take q).flatMap fun row => prs.map fun p => row ++ [p]) ++ (prs.map fun p => row ++ [p])).map dWay)), some (false, dWay row), j7]) ?_ ⟨_, _, rfl⟩
      rw [z_mut]
      show ((aCons (eL _) aNil _).bind _) = _
      rw [z_aCons, z_L, ll]
      show (extM _ [.list _]).bind _ = _
      rw [ex, List.map_append]
      rfl
    · intro ρ ⟨j6, j7, hρ⟩
      subst hρ
      rw [List.length_map, List.take_length]
      exact stp_of (ρ := [some (false, cr us), some (false, cr low), some (false, .list ((R.flatMap fun row => prs.map fun p => row ++ [p]).map dWay)), some (false, .int s), some (false, .list (prs.map dPair)), some (false, .list ((R.flatMap fun row => prs.map fun p => row ++ [p]).map dWay)), j6, j7]) (by simp [-List.map_map]) ⟨_, _, _, _, _, rfl⟩
  · intro ρ ⟨j3, j4, j5, j6, j7, hρ⟩
    subst hρ
    rw [List.length_map, List.take_length]
    exact ⟨_, by simp [-List.map_map], rfl⟩
/-! ### open wells -/
def opn (row : List (Int × List Int)) : Int := (row.map fun p => ((p.2.filter fun x => decide (x < 0)).length : Int)).sum
theorem open_ok {R : List (List (Int × List Int))} (hR : R.length ≤ 100000) (hr : ∀ row ∈ R, row.length ≤ 100000 ∧ ∀ p ∈ row, p.2.length ≤ 100000) : F_law_open [.list (R.map dWay)] = .ok (cr (R.map opn)) := by
  unfold F_law_open
  refine fn_E (ρ := [some (false, .list (R.map dWay)), none, none, none, none, none]) rfl ?_
  refine seq_R (ρ' := [some (false, .list (R.map dWay)), some (true, .list []), none, none, none, none]) (by simp) ?_
  refine for_R (ds := R.map dWay) (by simp) (fun i ρ => ∃ (j2 j3 j4 j5 : Option (Bool × PyData)), ρ = [some (false, .list (R.map dWay)), some (true, .list (((R.take i).map opn).map PyData.int)), j2, j3, j4, j5]) ⟨none, none, none, none, rfl⟩ ?_ ?_
  · intro i d ρ hd ⟨j2, j3, j4, j5, hρ⟩
    subst hρ
    obtain ⟨row, hrow, rfl⟩ := map_get' hd
    have hi : i < R.length := (List.getElem?_eq_some_iff.mp hrow).1
    obtain ⟨l1, l2⟩ := hr row (List.mem_of_getElem? hrow)
    refine stp_turn (ρ' := [some (false, .list (R.map dWay)), some (true, .list (((R.take i).map opn).map PyData.int)), some (false, dWay row), j3, j4, j5]) (by simp) ?_
    have lc := lc_mapE (enc := dPair) (out := PyData.int) (h := fun p : Int × List Int => ((p.2.filter fun x => decide (x < 0)).length : Int)) (xs := row) (bd := bd1 (gT 2 (gsC (gN 3) (gsC (gN 4) gsN))) tY (eCB lenD (aCons (eL (lLc [5] (iItems (eVar 4)) (gN 5) (tB' (e2 ltD (eVar 5) (eC (.int 0)))) (eVar 5))) aNil)) [some (false, .list (R.map dWay)), some (true, .list (((R.take i).map opn).map PyData.int)), some (false, dWay row), none, none, j5]) fun p hp => by
      have lf := lc_flatE (enc := PyData.int) (h := fun x : Int => if decide (x < 0) then [PyData.int x] else []) (xs := p.2) (bd := bd1 (gN 5) (tB' (e2 ltD (eVar 5) (eC (.int 0)))) (eVar 5) [some (false, .list (R.map dWay)), some (true, .list (((R.take i).map opn).map PyData.int)), some (false, dWay row), some (false, .int p.1), some (false, cr p.2), none]) fun x hx => by
        by_cases h1 : x < 0
        · simp [h1]
        · simp [h1]
      rw [flat_filter (fun x => decide (x < 0))] at lf
      have fl := List.length_filter_le (fun x : Int => decide (x < 0)) p.2
      have pl := l2 p hp
      have ll : lLc [5] (iItems (eVar 4)) (gN 5) (tB' (e2 ltD (eVar 5) (eC (.int 0)))) (eVar 5) [some (false, .list (R.map dWay)), some (true, .list (((R.take i).map opn).map PyData.int)), some (false, dWay row), some (false, .int p.1), some (false, cr p.2), j5] = .ok ((p.2.filter fun x => decide (x < 0)).map PyData.int) := by
        have i2 : iItems (eVar 4) [some (false, .list (R.map dWay)), some (true, .list (((R.take i).map opn).map PyData.int)), some (false, dWay row), some (false, .int p.1), some (false, cr p.2), j5] = .ok (p.2.map PyData.int) := rfl
        rw [z_lLc, i2, bind_ok']
        show cap (lcAll (bd1 _ _ _ [some (false, .list (R.map dWay)), some (true, .list (((R.take i).map opn).map PyData.int)), some (false, dWay row), some (false, .int p.1), some (false, cr p.2), none]) _) = _
        rw [lf]
        exact cap_le (by rw [List.length_map, lim_eq]; omega)
      have gt : gT 2 (gsC (gN 3) (gsC (gN 4) gsN)) (dPair p) [some (false, .list (R.map dWay)), some (true, .list (((R.take i).map opn).map PyData.int)), some (false, dWay row), none, none, j5] = .ok [some (false, .list (R.map dWay)), some (true, .list (((R.take i).map opn).map PyData.int)), some (false, dWay row), some (false, .int p.1), some (false, cr p.2), j5] := rfl
      rw [z_bd1, gt, bind_ok', z_tY, bind_ok', if_pos (show true = true from rfl), z_CB, z_aCons, z_L, ll]
      show Rs.ok [PyData.int ((((p.2.filter fun x => decide (x < 0)).map PyData.int).length : Nat) : Int)] = _
      rw [List.length_map]
    have ll : lLc [3, 4] (iItems (eVar 2)) (gT 2 (gsC (gN 3) (gsC (gN 4) gsN))) tY (eCB lenD (aCons (eL (lLc [5] (iItems (eVar 4)) (gN 5) (tB' (e2 ltD (eVar 5) (eC (.int 0)))) (eVar 5))) aNil)) [some (false, .list (R.map dWay)), some (true, .list (((R.take i).map opn).map PyData.int)), some (false, dWay row), j3, j4, j5] = .ok ((row.map fun p : Int × List Int => ((p.2.filter fun x => decide (x < 0)).length : Int)).map PyData.int) := by
      have i2 : iItems (eVar 2) [some (false, .list (R.map dWay)), some (true, .list (((R.take i).map opn).map PyData.int)), some (false, dWay row), j3, j4, j5] = .ok (row.map dPair) := rfl
      rw [z_lLc, i2, bind_ok']
      show cap (lcAll (bd1 _ _ _ [some (false, .list (R.map dWay)), some (true, .list (((R.take i).map opn).map PyData.int)), some (false, dWay row), none, none, j5]) _) = _
      rw [lc]
      exact cap_le (by rw [List.length_map, List.length_map, lim_eq]; omega)
    have sm := q_sum (row.map fun p : Int × List Int => ((p.2.filter fun x => decide (x < 0)).length : Int))
    have ap := q_app (ds := ((R.take i).map opn).map PyData.int) (y := .int (opn row)) (by rw [List.length_map, List.length_map, List.length_take, lim_eq]; omega)
    refine stp_of (ρ := [some (false, .list (R.map dWay)), some (true, .list (((R.take (i + 1)).map opn).map PyData.int)), some (false, dWay row), j3, j4, j5]) ?_ ⟨_, _, _, _, rfl⟩
    rw [z_mut]
    show ((aCons (eCB sumD (aCons (eL _) aNil)) aNil _).bind _) = _
    rw [z_aCons, z_CB, z_aCons, z_L, ll]
    show (((sumD [.list _]).bind _).bind _) = _
    rw [sm]
    show (appM _ [.int (opn row)]).bind _ = _
    rw [ap, take_snoc hrow, List.map_append, List.map_append]
    rfl
  · intro ρ ⟨j2, j3, j4, j5, hρ⟩
    subst hρ
    rw [List.length_map, List.take_length]
    exact ⟨_, by simp [-List.map_map], rfl⟩
theorem cnt_nn {n : Int} (h : 0 ≤ n) (us : List Int) : 0 ≤ cnt n us := by
  have := cnt_take_le h us 0
  exact this
theorem pmZ_bound {us : List Int} : ∀ low : List Int, (∀ x ∈ low, 0 ≤ x ∧ cnt (x + 1) us ≤ 100000) → 0 ≤ pmZ us low ∧ pmZ us low ≤ 100000 ^ low.length := by
  refine snoc_ind (fun _ => ⟨(by decide : (0 : Int) ≤ 1), (by decide : (1 : Int) ≤ 1)⟩) fun l s ih h => ?_
  obtain ⟨a, b⟩ := ih fun x hx => h x (List.mem_append_left _ hx)
  obtain ⟨c, d⟩ := h s (List.mem_append_right _ List.mem_cons_self)
  have e : 0 ≤ cnt (s + 1) us := cnt_nn (by omega) us
  rw [pmZ_snoc, List.length_append, List.length_singleton, Int.pow_succ]
  exact ⟨Int.mul_nonneg a e, Int.mul_le_mul b d e (Int.pow_nonneg (by decide))⟩
theorem cnt_one {us : List Int} {n : Int} (h : us ≠ []) (n1 : 1 ≤ n) : 1 ≤ cnt n us := by
  cases us with
  | nil => exact absurd rfl h
  | cons u us =>
    have a : cnt n (u :: us) = n ^ u.toNat + cnt n us := by
      unfold cnt
      rw [List.map_cons, List.sum_cons]
    have b : 0 ≤ cnt n us := cnt_nn (by omega) us
    have c : 0 < n ^ u.toNat := Int.pow_pos (by omega)
    omega
theorem pmZ_le_app {us : List Int} (hne : us ≠ []) {l : List Int} (h0 : 0 ≤ pmZ us l) : ∀ r : List Int, (∀ x ∈ r, 0 ≤ x) → pmZ us l ≤ pmZ us (l ++ r) := by
  refine snoc_ind (fun _ => by rw [List.append_nil]; exact Int.le_refl _) fun r s ih h => ?_
  have ih := ih fun x hx => h x (List.mem_append_left _ hx)
  have s0 := h s (List.mem_append_right _ List.mem_cons_self)
  have c1 := cnt_one (n := s + 1) hne (by omega)
  rw [← List.append_assoc, pmZ_snoc]
  have : pmZ us (l ++ r) * 1 ≤ pmZ us (l ++ r) * cnt (s + 1) us := Int.mul_le_mul_of_nonneg_left c1 (by omega)
  omega
theorem pmZ_take {us low : List Int} (hlow : ∀ x ∈ low, 0 ≤ x ∧ cnt (x + 1) us ≤ 100000) (h : pmZ us low ≤ 60) (i : Nat) : pmZ us (low.take i) ≤ 60 := by
  by_cases hne : us = []
  · subst hne
    have q : ∀ l : List Int, pmZ [] l ≤ 1 := by
      refine snoc_ind (by decide) fun l s ih => ?_
      rw [pmZ_snoc]
      show pmZ [] l * 0 ≤ 1
      omega
    have := q (low.take i)
    omega
  · have b := (pmZ_bound (us := us) (low.take i) fun x hx => hlow x (List.mem_of_mem_take hx)).1
    have := pmZ_le_app hne b (low.drop i) fun x hx => (hlow x (List.mem_of_mem_drop hx)).1
    rw [List.take_append_drop] at this
    omega
noncomputable def fitB (us low : List Int) : Bool := decide (pmZ us low ≤ 60) && decide (maxI (0 :: (powR us low).map opn) ≤ 12)
structure TwoOk (us low : List Int) : Prop where
  hu : ∀ x ∈ us, 0 ≤ x ∧ x ≤ 3
  hul : us.length ≤ 6
  hl : ∀ x ∈ low, 0 ≤ x ∧ x ≤ 3
  hll : low.length ≤ 6
theorem cnt_three {n : Int} (n0 : 0 ≤ n) (n1 : n ≤ 4) : ∀ us : List Int, (∀ x ∈ us, 0 ≤ x ∧ x ≤ 3) → cnt n us ≤ 64 * (us.length : Int)
  | [], _ => (by decide : (0 : Int) ≤ 64 * 0)
  | u :: us, h => by
    have ih := cnt_three n0 n1 us fun x hx => h x (List.mem_cons_of_mem _ hx)
    have hu := h u List.mem_cons_self
    have a : cnt n (u :: us) = n ^ u.toNat + cnt n us := by
      unfold cnt
      rw [List.map_cons, List.sum_cons]
    have b : n ^ u.toNat ≤ 64 := by
      obtain ⟨k, hk⟩ : ∃ k : Nat, n = (k : Int) := ⟨n.toNat, by omega⟩
      have k4 : k ≤ 4 := by omega
      have u3 : u.toNat ≤ 3 := by omega
      have h1 : k ^ u.toNat ≤ 4 ^ u.toNat := Nat.pow_le_pow_left k4 _
      have h2 : 4 ^ u.toNat ≤ 4 ^ 3 := Nat.pow_le_pow_right (by decide) u3
      have h3 : ((k ^ u.toNat : Nat) : Int) = (k : Int) ^ u.toNat := Int.natCast_pow k _
      rw [hk, ← h3]
      have : k ^ u.toNat ≤ 64 := Nat.le_trans h1 h2
      omega
    rw [a, List.length_cons]
    omega
theorem TwoOk.small {us low : List Int} (h : TwoOk us low) : Small us := fun x hx => ⟨(h.hu x hx).1, by have := (h.hu x hx).2; omega⟩
theorem TwoOk.cs {us low : List Int} (h : TwoOk us low) : ∀ x ∈ low, cnt (x + 1) us ≤ 100000 := fun x hx => by
  have a := h.hl x hx
  have b := cnt_three (n := x + 1) (by omega) (by omega) us h.hu
  have c := h.hul
  omega
theorem TwoOk.rows {us low : List Int} (h : TwoOk us low) (hp : pmZ us low ≤ 60) : F_law_power_rows [cr us, cr low] = .ok (.list ((powR us low).map dWay)) ∧ (powR us low).length ≤ 60 := by
  have hul := h.hul
  have hll := h.hll
  refine ⟨power_rows_ok h.small (by omega) (fun x hx => ⟨(h.hl x hx).1, by have := (h.hl x hx).2; omega⟩) (by omega) h.cs fun i hi => ?_, ?_⟩
  · have a := pmZ_take (us := us) (low := low) (fun x hx => ⟨(h.hl x hx).1, h.cs x hx⟩) hp i
    have b := powR_len (us := us) (low.take i) fun x hx => (h.hl x (List.mem_of_mem_take hx)).1
    omega
  · have b := powR_len (us := us) low fun x hx => (h.hl x hx).1
    omega
theorem TwoOk.op {us low : List Int} (h : TwoOk us low) (hp : pmZ us low ≤ 60) : F_law_open [.list ((powR us low).map dWay)] = .ok (cr ((powR us low).map opn)) := by
  have hll := h.hll
  refine open_ok (by have := (h.rows hp).2; omega) fun row hr => ⟨by rw [powR_row _ row hr]; omega, fun p hp' => ?_⟩
  obtain ⟨a1, a2, a3, a4⟩ := powR_pairs h.small low row hr p hp'
  have := h.hu _ (List.mem_of_getElem? a3)
  omega
/-! ### what fits -/
theorem opn_nn (row : List (Int × List Int)) : 0 ≤ opn row := by
  unfold opn
  induction row with
  | nil => exact Int.le_refl _
  | cons p r ih => rw [List.map_cons, List.sum_cons]; omega
theorem opn_le {b : Nat} : ∀ row : List (Int × List Int), (∀ p ∈ row, p.2.length ≤ b) → opn row ≤ ((b * row.length : Nat) : Int)
  | [], _ => (by decide : (0 : Int) ≤ 0)
  | p :: r, h => by
    have ih := opn_le r fun q hq => h q (List.mem_cons_of_mem _ hq)
    have hp := h p List.mem_cons_self
    have fl := List.length_filter_le (fun x : Int => decide (x < 0)) p.2
    have e : opn (p :: r) = ((p.2.filter fun x => decide (x < 0)).length : Int) + opn r := by
      unfold opn
      rw [List.map_cons, List.sum_cons]
    rw [e, List.length_cons, Nat.mul_succ]
    omega
theorem cnt_1 : ∀ us : List Int, cnt 1 us = (us.length : Int)
  | [] => rfl
  | u :: us => by
    have a : cnt 1 (u :: us) = 1 ^ u.toNat + cnt 1 us := by
      unfold cnt
      rw [List.map_cons, List.sum_cons]
    rw [a, cnt_1 us, Int.one_pow, List.length_cons]
    omega
theorem fit_of {us low : List Int} (h1 : pmZ us low ≤ 60) (h2 : ∀ row ∈ powR us low, opn row ≤ 12) : fitB us low = true := by
  unfold fitB
  rw [decide_eq_true h1, Bool.true_and, decide_eq_true_eq]
  have := (maxI_mem (ns := 0 :: (powR us low).map opn) (by rw [List.length_cons]; omega)).1
  rcases List.mem_cons.mp this with e | e
  · rw [e]; decide
  · obtain ⟨row, hr, e2⟩ := List.mem_map.mp e
    rw [← e2]
    exact h2 row hr
theorem TwoOk.zero {us : List Int} (h : TwoOk us [0]) : fitB us [0] = true := by
  have hul := h.hul
  refine fit_of ?_ fun row hr => ?_
  · show (1 : Int) * cnt (0 + 1) us ≤ 60
    have := cnt_1 us
    rw [show (0 : Int) + 1 = 1 from rfl, this]
    omega
  · have rl := powR_row (us := us) [0] row hr
    have := opn_le (b := 3) row fun p hp => by
      obtain ⟨a1, a2, a3, a4⟩ := powR_pairs h.small [0] row hr p hp
      have := h.hu _ (List.mem_of_getElem? a3)
      omega
    rw [rl] at this
    have e : (3 * ([0] : List Int).length : Nat) = 3 := rfl
    omega
theorem flat_dig {α β : Type} {f : α → List β} {c : Nat} (c0 : 0 < c) : ∀ {l : List α} {k : Nat} {r : β}, (∀ a ∈ l, (f a).length = c) → (l.flatMap f)[k]? = some r → ∃ a, l[k / c]? = some a ∧ (f a)[k % c]? = some r
  | [], k, r, _, h => by cases h
  | a :: l, k, r, hl, h => by
    rw [List.flatMap_cons] at h
    have ha := hl a List.mem_cons_self
    by_cases hk : k < c
    · rw [List.getElem?_append_left (by omega)] at h
      rw [Nat.div_eq_of_lt hk, Nat.mod_eq_of_lt hk]
      exact ⟨a, rfl, h⟩
    · rw [List.getElem?_append_right (by omega), ha] at h
      obtain ⟨b, h1, h2⟩ := flat_dig c0 (l := l) (fun x hx => hl x (List.mem_cons_of_mem _ hx)) h
      obtain ⟨j, rfl⟩ : ∃ j, k = j + c := ⟨k - c, by omega⟩
      rw [Nat.add_sub_cancel] at h1 h2
      rw [Nat.add_div_right _ c0, Nat.add_mod_right]
      exact ⟨b, h1, h2⟩
theorem powW_len {us : List Int} (low : List Int) (h : ∀ x ∈ low, 0 ≤ x) : ((powW us (nsOf low)).length : Int) = pmZ us low := by
  have := powR_len (us := us) low h
  unfold powR at this
  rw [List.length_map] at this
  exact this
theorem ways_many_ok {us low : List Int} (hu : Small us) (hul : us.length ≤ 60) (hlow : ∀ x ∈ low, 0 ≤ x ∧ x ≤ 900) (hll : low.length ≤ 8) (hcs : ∀ x ∈ low, cnt (x + 1) us ≤ 100000) : F_ways_many [cr (low.map fun x => x + 1), cr us] = .ok (.int (pmZ us low)) := by
  unfold F_ways_many
  refine fn_E (ρ := [some (false, cr (low.map fun x => x + 1)), some (false, cr us), none, none]) rfl ?_
  refine seq_R (ρ' := [some (false, cr (low.map fun x => x + 1)), some (false, cr us), some (false, .int (pmZ us [])), none]) (by simp; rfl) ?_
  refine for_R (ds := (low.map fun x => x + 1).map PyData.int) (by simp) (fun i ρ => ∃ j3 : Option (Bool × PyData), ρ = [some (false, cr (low.map fun x => x + 1)), some (false, cr us), some (false, .int (pmZ us (low.take i))), j3]) ⟨none, rfl⟩ ?_ ?_
  · intro i d ρ hd ⟨j3, hρ⟩
    subst hρ
    obtain ⟨w, hw, rfl⟩ := map_get' hd
    rw [List.getElem?_map] at hw
    cases hs : low[i]? with
    | none => rw [hs] at hw; cases hw
    | some s =>
      rw [hs] at hw
      cases hw
      obtain ⟨s0, s1⟩ := hlow s (List.mem_of_getElem? hs)
      have cs := hcs s (List.mem_of_getElem? hs)
      have cn : 0 ≤ cnt (s + 1) us := cnt_nn (by omega) us
      obtain ⟨p0, p1⟩ := pmZ_bound (us := us) (low.take i) fun x hx => ⟨(hlow x (List.mem_of_mem_take hx)).1, hcs x (List.mem_of_mem_take hx)⟩
      have p2 : (100000 : Int) ^ (low.take i).length ≤ 100000 ^ 8 := by
        have : ((low.take i).length) ≤ 8 := by rw [List.length_take]; omega
        generalize (low.take i).length = q at this
        match q, this with
        | 0, _ => decide
        | 1, _ => decide
        | 2, _ => decide
        | 3, _ => decide
        | 4, _ => decide
        | 5, _ => decide
        | 6, _ => decide
        | 7, _ => decide
        | 8, _ => decide
      have ml := q_mul (i := pmZ us (low.take i)) (j := cnt (s + 1) us) (wide_small (by omega) (Int.lt_of_le_of_lt (Int.le_trans p1 p2) (by decide))) (wide_small (by omega) (by omega))
      have hm := how_many (ws := us) (n := s + 1) (fun x hx => ⟨(hu x hx).1, by have := (hu x hx).2; omega⟩) (by omega) (by omega) (by omega)
      refine stp_turn (ρ' := [some (false, cr (low.map fun x => x + 1)), some (false, cr us), some (false, .int (pmZ us (low.take i))), some (false, .int (s + 1))]) (by simp) ?_
      refine stp_of (ρ := [some (false, cr (low.map fun x => x + 1)), some (false, cr us), some (false, .int (pmZ us (low.take (i + 1)))), some (false, .int (s + 1))]) ?_ ⟨_, rfl⟩
      rw [take_snoc hs, pmZ_snoc]
      simp [hm, ml]
  · intro ρ ⟨j3, hρ⟩
    subst hρ
    rw [List.length_map, List.length_map, List.take_length]
    exact ⟨_, by simp, rfl⟩
theorem way_at_ok {us low : List Int} {k : Nat} {row : List (Int × List Int)} (hu : Small us) (hul : us.length ≤ 60) (hlow : ∀ x ∈ low, 0 ≤ x ∧ x ≤ 900) (hll : low.length ≤ 8) (hcs : ∀ x ∈ low, cnt (x + 1) us ≤ 100000) (hr : (powW us (nsOf low))[k]? = some row) : F_way_at [cr (low.map fun x => x + 1), cr us, .int (k : Int)] = .ok (dWay row) := by
  have wm := ways_many_ok hu hul hlow hll hcs
  have wl := powW_len (us := us) low fun x hx => (hlow x hx).1
  have kl := (List.getElem?_eq_some_iff.mp hr).1
  unfold F_way_at
  refine fn_E (ρ := [some (false, cr (low.map fun x => x + 1)), some (false, cr us), some (false, .int (k : Int)), none, none, none]) rfl ?_
  refine seq_R (ρ' := [some (false, cr (low.map fun x => x + 1)), some (false, cr us), some (false, .int (k : Int)), none, none, none]) ?_ ?_
  · have c1 : decide ((0 : Int) ≤ (k : Int)) = true := decide_eq_true (by omega)
    have c2 : decide ((k : Int) < pmZ us low) = true := decide_eq_true (by omega)
    have ts : tNot' (tB' (eChain leD ltD (eC (.int 0)) (eVar 2) (eCall F_ways_many (aCons (eVar 0) (aCons (eVar 1) aNil))))) [some (false, cr (low.map fun x => x + 1)), some (false, cr us), some (false, .int (k : Int)), none, none, none] = .ok false := by
      simp only [z_tNot, z_tB, z_chain, z_C, z_var, List.getElem?_cons_succ, List.getElem?_cons_zero, bind_ok', q_le, c1, z_bD, if_true, z_call, z_aCons, z_aNil, wm, q_lt, c2]
      rfl
    rw [z_sIf, ts]
    rfl
  refine seq_R (ρ' := [some (false, cr (low.map fun x => x + 1)), some (false, cr us), some (false, .int (k : Int)), some (true, .list []), none, none]) (by simp) ?_
  refine for_R (ds := ((low.map fun x => x + 1).map PyData.int).reverse) (by simp) (fun i ρ => ∃ (q : Nat) (row' tail : List (Int × List Int)) (j4 j5 : Option (Bool × PyData)), (powW us (nsOf (low.take (low.length - i))))[q]? = some row' ∧ row = row' ++ tail ∧ tail.length = i ∧ ρ = [some (false, cr (low.map fun x => x + 1)), some (false, cr us), some (false, .int (q : Int)), some (true, .list (tail.reverse.map dPair)), j4, j5]) ⟨k, row, [], none, none, by rw [Nat.sub_zero, List.take_length]; exact hr, by rw [List.append_nil], rfl, rfl⟩ ?_ ?_
  · intro i d ρ hd ⟨q, row', tail, j4, j5, hq, ht, tl, hρ⟩
    subst hρ
    have hi := (List.getElem?_eq_some_iff.mp hd).1
    rw [List.length_reverse, List.length_map, List.length_map] at hi
    rw [List.getElem?_reverse (by rw [List.length_map, List.length_map]; exact hi), List.length_map, List.length_map, List.getElem?_map, List.getElem?_map] at hd
    have hs : low[low.length - 1 - i]? = some (low[low.length - 1 - i]'(by omega)) := List.getElem?_eq_getElem _
    generalize low[low.length - 1 - i]'(by omega) = s at hs
    rw [hs] at hd
    cases hd
    obtain ⟨s0, s1⟩ := hlow s (List.mem_of_getElem? hs)
    have cs := hcs s (List.mem_of_getElem? hs)
    have tk : low.take (low.length - i) = low.take (low.length - (i + 1)) ++ [s] := by
      rw [show low.length - i = (low.length - 1 - i) + 1 by omega, take_snoc hs, show low.length - 1 - i = low.length - (i + 1) by omega]
    rw [tk, nsOf_snoc, powW_snoc] at hq
    have fl := fills_many (us := us) (s + 1).toNat hu
    rw [show (((s + 1).toNat : Nat) : Int) = s + 1 by omega] at fl
    have cpos : 0 < (fills (s + 1).toNat us us.length).length := by
      obtain ⟨r0, _, hm⟩ := List.mem_flatMap.mp (List.mem_of_getElem? hq)
      obtain ⟨p, hp, _⟩ := List.mem_map.mp hm
      exact List.length_pos_of_mem hp
    obtain ⟨row2, h1, h2⟩ := flat_dig (c := (fills (s + 1).toNat us us.length).length) cpos (fun x _ => by rw [List.length_map]) hq
    rw [List.getElem?_map] at h2
    cases h3 : (fills (s + 1).toNat us us.length)[q % (fills (s + 1).toNat us us.length).length]? with
    | none => rw [h3] at h2; cases h2
    | some p =>
      rw [h3] at h2
      cases h2
      obtain ⟨f1, f2⟩ := fills_num hu h3
      rw [show (((s + 1).toNat : Nat) : Int) = s + 1 by omega] at f1 f2
      have hm := how_many (ws := us) (n := s + 1) (fun x hx => ⟨(hu x hx).1, by have := (hu x hx).2; omega⟩) (by omega) (by omega) (by omega)
      have fa := filling_at (us := us) (n := s + 1) (fun x hx => ⟨(hu x hx).1, by have := (hu x hx).2; omega⟩) (by omega) (by omega) (by omega) f1 f2
      rw [← fl] at hm cs
      generalize (fills (s + 1).toNat us us.length).length = c at cpos h1 fa hm cs
      have dm := q_divmod (i := (q : Int)) (j := (c : Int)) (by omega) (wide_small (by omega) (by omega))
      have dm : divmodD [.int (q : Int), .int (c : Int)] = .ok (.tuple [.int ((q / c : Nat) : Int), .int ((q % c : Nat) : Int)]) := dm
      have ap := q_app (ds := tail.reverse.map dPair) (y := dPair p) (by rw [List.length_map, List.length_reverse, tl, lim_eq]; omega)
      refine stp_turn (ρ' := [some (false, cr (low.map fun x => x + 1)), some (false, cr us), some (false, .int (q : Int)), some (true, .list (tail.reverse.map dPair)), some (false, .int (s + 1)), j5]) (by simp) ?_
      refine stp_seq (ρ' := [some (false, cr (low.map fun x => x + 1)), some (false, cr us), some (false, .int ((q / c : Nat) : Int)), some (true, .list (tail.reverse.map dPair)), some (false, .int (s + 1)), some (false, .int ((q % c : Nat) : Int))]) ?_ ?_
      · have v1 : eCB divmodD (aCons (eVar 2) (aCons (eCall F_how_many (aCons (eVar 1) (aCons (eVar 4) aNil))) aNil)) [some (false, cr (low.map fun x => x + 1)), some (false, cr us), some (false, .int (q : Int)), some (true, .list (tail.reverse.map dPair)), some (false, .int (s + 1)), j5] = .ok (.tuple [.int ((q / c : Nat) : Int), .int ((q % c : Nat) : Int)]) := by
          simp only [z_CB, z_aCons, z_var, z_aNil, z_call, List.getElem?_cons_succ, List.getElem?_cons_zero, bind_ok', hm, dm]
        rw [z_asg, v1]
        rfl
      · refine stp_of (ρ := [some (false, cr (low.map fun x => x + 1)), some (false, cr us), some (false, .int ((q / c : Nat) : Int)), some (true, .list ((p :: tail).reverse.map dPair)), some (false, .int (s + 1)), some (false, .int ((q % c : Nat) : Int))]) ?_ ⟨q / c, row2, p :: tail, _, _, h1, by rw [ht, List.append_assoc]; rfl, by rw [List.length_cons, tl], rfl⟩
        rw [z_mut]
        show ((aCons (eCall F_filling_at _) aNil _).bind _) = _
        have v2 : aCons (eCall F_filling_at (aCons (eVar 1) (aCons (eVar 4) (aCons (eVar 5) aNil)))) aNil [some (false, cr (low.map fun x => x + 1)), some (false, cr us), some (false, .int ((q / c : Nat) : Int)), some (true, .list (tail.reverse.map dPair)), some (false, .int (s + 1)), some (false, .int ((q % c : Nat) : Int))] = .ok [dPair p] := by
          simp only [z_aCons, z_call, z_var, z_aNil, List.getElem?_cons_succ, List.getElem?_cons_zero, bind_ok', fa]
        rw [v2, bind_ok', ap, List.reverse_cons, List.map_append]
        rfl
  · intro ρ ⟨q, row', tail, j4, j5, hq, ht, tl, hρ⟩
    subst hρ
    rw [List.length_reverse, List.length_map, List.length_map, Nat.sub_self, List.take_zero] at hq
    have hq : ([[]] : List (List (Int × List Int)))[q]? = some row' := hq
    have : row' = [] := by
      cases q with
      | zero => cases hq; rfl
      | succ q => cases hq
    rw [this, List.nil_append] at ht
    subst ht
    refine ret_R (d := dWay row) ?_ rfl
    have e9 : ((row.reverse.map dPair).reverse) = row.map dPair := by rw [← List.map_reverse, List.reverse_reverse]
    show Rs.ok (PyData.tuple ((row.reverse.map dPair).reverse)) = _
    rw [e9]
    rfl
theorem widened_ok {low : List Int} (hll : low.length ≤ 1000) : F_widened [cr low] = .ok (cr (low.map fun x => x + 1)) := by
  unfold F_widened
  refine fn_E (ρ := [some (false, cr low), none]) rfl ?_
  have lc := lc_mapE (enc := PyData.int) (out := PyData.int) (h := fun x : Int => x + 1) (xs := low) (bd := bd1 (gN 1) tY (e2 addD (eVar 1) (eC (.int 1))) [some (false, cr low), none]) fun x hx => by simp
  refine ret_R (d := cr (low.map fun x => x + 1)) ?_ rfl
  have ll : lLc [1] (iItems (eVar 0)) (gN 1) tY (e2 addD (eVar 1) (eC (.int 1))) [some (false, cr low), none] = .ok ((low.map fun x : Int => x + 1).map PyData.int) := by
    have i2 : iItems (eVar 0) [some (false, cr low), none] = .ok (low.map PyData.int) := rfl
    rw [z_lLc, i2, bind_ok']
    show cap (lcAll (bd1 _ _ _ [some (false, cr low), none]) _) = _
    rw [lc]
    exact cap_le (by rw [List.length_map, List.length_map, lim_eq]; omega)
  rw [z_CB, z_aCons, z_L, ll]
  rfl
theorem renumbered_ok {row : List (Int × List Int)} (hl : row.length ≤ 1000) (hp : ∀ p ∈ row, p.2.length ≤ 1000) : F_renumbered [dWay row, .int (-1)] = .ok (dWay (row.map shP)) := by
  unfold F_renumbered
  refine fn_E (ρ := [some (false, dWay row), some (false, .int (-1)), none, none, none]) rfl ?_
  have lc := lc_mapE (enc := dPair) (out := dPair) (h := shP) (xs := row) (bd := bd1 (gT 2 (gsC (gN 2) (gsC (gN 3) gsN))) tY (eTup (aCons (eVar 2) (aCons (eCB tupleD (aCons (eL (lLc [4] (iItems (eVar 3)) (gN 4) tY (e2 addD (eVar 4) (eVar 1)))) aNil)) aNil))) [some (false, dWay row), some (false, .int (-1)), none, none, none]) fun p hpp => by
    have pl := hp p hpp
    have lc2 := lc_mapE (enc := PyData.int) (out := PyData.int) (h := fun x : Int => x + (-1)) (xs := p.2) (bd := bd1 (gN 4) tY (e2 addD (eVar 4) (eVar 1)) [some (false, dWay row), some (false, .int (-1)), some (false, .int p.1), some (false, cr p.2), none]) fun x hx => by simp
    have ll2 : lLc [4] (iItems (eVar 3)) (gN 4) tY (e2 addD (eVar 4) (eVar 1)) [some (false, dWay row), some (false, .int (-1)), some (false, .int p.1), some (false, cr p.2), none] = .ok ((p.2.map fun x : Int => x + (-1)).map PyData.int) := by
      have i2 : iItems (eVar 3) [some (false, dWay row), some (false, .int (-1)), some (false, .int p.1), some (false, cr p.2), none] = .ok (p.2.map PyData.int) := rfl
      rw [z_lLc, i2, bind_ok']
      show cap (lcAll (bd1 _ _ _ [some (false, dWay row), some (false, .int (-1)), some (false, .int p.1), some (false, cr p.2), none]) _) = _
      rw [lc2]
      exact cap_le (by rw [List.length_map, List.length_map, lim_eq]; omega)
    have gt : gT 2 (gsC (gN 2) (gsC (gN 3) gsN)) (dPair p) [some (false, dWay row), some (false, .int (-1)), none, none, none] = .ok [some (false, dWay row), some (false, .int (-1)), some (false, .int p.1), some (false, cr p.2), none] := rfl
    have v2 : eVar 2 [some (false, dWay row), some (false, .int (-1)), some (false, .int p.1), some (false, cr p.2), none] = .ok (.int p.1) := rfl
    rw [z_bd1, gt, bind_ok', z_tY, bind_ok', if_pos (show true = true from rfl), z_tup, z_aCons, v2, bind_ok', z_aCons, z_CB, z_aCons, z_L, ll2]
    rfl
  refine ret_R (d := dWay (row.map shP)) ?_ rfl
  have ll : lLc [2, 3] (iItems (eVar 0)) (gT 2 (gsC (gN 2) (gsC (gN 3) gsN))) tY (eTup (aCons (eVar 2) (aCons (eCB tupleD (aCons (eL (lLc [4] (iItems (eVar 3)) (gN 4) tY (e2 addD (eVar 4) (eVar 1)))) aNil)) aNil))) [some (false, dWay row), some (false, .int (-1)), none, none, none] = .ok ((row.map shP).map dPair) := by
    have i2 : iItems (eVar 0) [some (false, dWay row), some (false, .int (-1)), none, none, none] = .ok (row.map dPair) := rfl
    rw [z_lLc, i2, bind_ok']
    show cap (lcAll (bd1 _ _ _ [some (false, dWay row), some (false, .int (-1)), none, none, none]) _) = _
    rw [lc]
    exact cap_le (by rw [List.length_map, List.length_map, lim_eq]; omega)
  rw [z_CB, z_aCons, z_L, ll]
  rfl
/-- a row by its place -/
theorem TwoOk.row_at {us low : List Int} {k : Nat} {row : List (Int × List Int)} (h : TwoOk us low) (hr : (powR us low)[k]? = some row) : F_row_at [cr us, cr low, .int (k : Int)] = .ok (dWay row) := by
  have hul := h.hul
  have hll := h.hll
  have hr0 := hr
  unfold powR at hr
  rw [List.getElem?_map] at hr
  cases hw : (powW us (nsOf low))[k]? with
  | none => rw [hw] at hr; cases hr
  | some r0 =>
    rw [hw] at hr
    cases hr
    have wa := way_at_ok h.small (by omega) (fun x hx => ⟨(h.hl x hx).1, by have := (h.hl x hx).2; omega⟩) (by omega) h.cs hw
    have wd := widened_ok (low := low) (by omega)
    have rl := powR_row low _ (List.mem_of_getElem? hr0)
    rw [List.length_map] at rl
    have rn := renumbered_ok (row := r0) (by omega) fun p hp => by
      obtain ⟨a1, a2, a3, a4⟩ := powR_pairs h.small low _ (List.mem_of_getElem? hr0) (shP p) (List.mem_map.mpr ⟨p, hp, rfl⟩)
      have b := h.hu _ (List.mem_of_getElem? a3)
      have e : (shP p).2.length = p.2.length := by show (sh p.2).length = _; unfold sh; rw [List.length_map]
      omega
    unfold F_row_at
    refine fn_E (ρ := [some (false, cr us), some (false, cr low), some (false, .int (k : Int))]) rfl ?_
    refine ret_R (d := dWay (r0.map shP)) ?_ rfl
    simp only [z_call, z_aCons, z_var, z_aNil, List.getElem?_cons_succ, List.getElem?_cons_zero, bind_ok', wd, wa, z_C, rn]
end Tm

namespace Tm
open PySem PySem.Spec PyProof.Rows L2
/-! ### open wells are filled in order -/
def neg (xs : List Int) : Int := ((xs.filter fun x => decide (x < 0)).length : Int)
theorem neg_app (a b : List Int) : neg (a ++ b) = neg a + neg b := by
  unfold neg
  rw [List.filter_append, List.length_append]
  omega
theorem neg_nn (a : List Int) : 0 ≤ neg a := by unfold neg; omega
theorem neg_take (xs : List Int) (i : Nat) : neg (xs.take i) ≤ neg xs := by
  have := neg_app (xs.take i) (xs.drop i)
  rw [List.take_append_drop] at this
  have := neg_nn (xs.drop i)
  omega
theorem opn_app (a b : List (Int × List Int)) : opn (a ++ b) = opn a + opn b := by
  unfold opn
  rw [List.map_append, List.sum_append]
theorem opn_one (p : Int × List Int) : opn [p] = neg p.2 := by
  unfold opn neg
  rw [List.map_cons, List.map_nil, List.sum_cons, List.sum_nil, Int.add_zero]
theorem opn_take (r : List (Int × List Int)) (i : Nat) : opn (r.take i) ≤ opn r := by
  have := opn_app (r.take i) (r.drop i)
  rw [List.take_append_drop] at this
  have := opn_nn (r.drop i)
  omega
def stepF (w : Int) (own : List Int) (acc : List Int × Int) (x : Int) : List Int × Int := if x < 0 then (acc.1 ++ [pick own acc.2], acc.2 + 1) else (acc.1 ++ [w + x], acc.2)
structure RowOk (own : List Int) (row : List (Int × List Int)) : Prop where
  ge : ∀ p ∈ row, ∀ x ∈ p.2, -1 ≤ x
  op : opn row = (own.length : Int)
  ln : row.length ≤ 1000
  lw : ∀ p ∈ row, p.2.length ≤ 1000
theorem RowOk.at {own : List Int} {row : List (Int × List Int)} (h : RowOk own row) {i j : Nat} {p : Int × List Int} {x : Int} (hp : row[i]? = some p) (hx : p.2[j]? = some x) (h0 : x < 0) : 0 ≤ opn (row.take i) + neg (p.2.take j) ∧ opn (row.take i) + neg (p.2.take j) < (own.length : Int) := by
  have a := opn_take row (i + 1)
  rw [take_snoc hp, opn_app, opn_one] at a
  have b := neg_take p.2 (j + 1)
  rw [take_snoc hx, neg_app] at b
  have e : neg [x] = 1 := by
    unfold neg
    simp [h0]
  have := opn_nn (row.take i)
  have := neg_nn (p.2.take j)
  have := h.op
  omega
/-! ### both sides -/
/-! ### the number of a row -/
def rnum (us low : List Int) (row : List (Int × List Int)) : Int := (low.zip row).foldl (fun a z => a * cnt (z.1 + 1) us + fnum (z.1 + 1) us z.2) 0
theorem rnum_snoc {us l : List Int} {r : List (Int × List Int)} (s : Int) (p : Int × List Int) (h : l.length = r.length) : rnum us (l ++ [s]) (r ++ [p]) = rnum us l r * cnt (s + 1) us + fnum (s + 1) us p := by
  unfold rnum
  rw [List.zip_append h, List.foldl_append]
  rfl
theorem powW_row {us : List Int} {low : List Int} {row : List (Int × List Int)} (h : row ∈ powW us (nsOf low)) : row.length = low.length := by
  have := powR_row (us := us) low (row.map shP) (List.mem_map.mpr ⟨row, h, rfl⟩)
  rw [List.length_map] at this
  exact this
theorem powW_num {us : List Int} (hu : Small us) : ∀ low : List Int, (∀ x ∈ low, 0 ≤ x) → ∀ (k : Nat) (row : List (Int × List Int)), (powW us (nsOf low))[k]? = some row → rnum us low row = (k : Int) := by
  refine snoc_ind (fun _ k row h => ?_) fun l s ih hl k row h => ?_
  · have h : ([[]] : List (List (Int × List Int)))[k]? = some row := h
    cases k with
    | zero => cases h; rfl
    | succ k => cases h
  · have s0 := hl s (List.mem_append_right _ List.mem_cons_self)
    have h0 := h
    rw [nsOf_snoc, powW_snoc] at h
    have fl := fills_many (us := us) (s + 1).toNat hu
    rw [show (((s + 1).toNat : Nat) : Int) = s + 1 by omega] at fl
    have cpos : 0 < (fills (s + 1).toNat us us.length).length := by
      obtain ⟨r0, _, hm⟩ := List.mem_flatMap.mp (List.mem_of_getElem? h)
      obtain ⟨p, hp, _⟩ := List.mem_map.mp hm
      exact List.length_pos_of_mem hp
    obtain ⟨row2, h1, h2⟩ := flat_dig (c := (fills (s + 1).toNat us us.length).length) cpos (fun x _ => by rw [List.length_map]) h
    rw [List.getElem?_map] at h2
    cases h3 : (fills (s + 1).toNat us us.length)[k % (fills (s + 1).toNat us us.length).length]? with
    | none => rw [h3] at h2; cases h2
    | some p =>
      rw [h3] at h2
      cases h2
      obtain ⟨f1, f2⟩ := fills_num hu h3
      rw [show (((s + 1).toNat : Nat) : Int) = s + 1 by omega] at f1 f2
      have i1 := ih (fun x hx => hl x (List.mem_append_left _ hx)) _ _ h1
      rw [rnum_snoc s p (powW_row (List.mem_of_getElem? h1)).symm, i1, f2, ← fl]
      generalize (fills (s + 1).toNat us us.length).length = c
      have := Nat.div_add_mod k c
      have e : ((k / c : Nat) : Int) * (c : Int) + ((k % c : Nat) : Int) = ((c * (k / c) + k % c : Nat) : Int) := by
        rw [Int.natCast_add, Int.natCast_mul, Int.mul_comm]
      rw [e, this]
theorem flat_put {α β : Type} {f : α → List β} {c j : Nat} (hj : j < c) : ∀ {l : List α} {k : Nat} {a : α} {r : β}, (∀ a ∈ l, (f a).length = c) → l[k]? = some a → (f a)[j]? = some r → (l.flatMap f)[k * c + j]? = some r
  | [], k, a, r, _, h, _ => by cases h
  | b :: l, 0, a, r, hl, h, h2 => by
    cases h
    rw [List.flatMap_cons, Nat.zero_mul, Nat.zero_add, List.getElem?_append_left (by rw [hl b List.mem_cons_self]; exact hj)]
    exact h2
  | b :: l, k + 1, a, r, hl, h, h2 => by
    have := flat_put hj (l := l) (k := k) (fun x hx => hl x (List.mem_cons_of_mem _ hx)) h h2
    have hb := hl b List.mem_cons_self
    have e : (k + 1) * c + j = c + (k * c + j) := by rw [Nat.succ_mul]; omega
    rw [List.flatMap_cons, e, List.getElem?_append_right (by omega), hb, Nat.add_sub_cancel_left]
    exact this
/-- a row of fillings -/
def RowFill (us low : List Int) (row : List (Int × List Int)) : Prop := row.length = low.length ∧ ∀ (i : Nat) p s, row[i]? = some p → low[i]? = some s → FillOk (s + 1) us p
theorem RowFill.take {us low : List Int} {row : List (Int × List Int)} (h : RowFill us low row) (i : Nat) : RowFill us (low.take i) (row.take i) := by
  refine ⟨by rw [List.length_take, List.length_take, h.1], fun j p s hp hs => ?_⟩
  have jl := (List.getElem?_eq_some_iff.mp hp).1
  rw [List.length_take] at jl
  rw [List.getElem?_take_of_lt (by omega)] at hp hs
  exact h.2 j p s hp hs
theorem powW_at {us : List Int} (hu : Small us) : ∀ low : List Int, (∀ x ∈ low, 0 ≤ x) → ∀ row, RowFill us low row → ∃ k : Nat, (powW us (nsOf low))[k]? = some row := by
  refine snoc_ind (fun _ row h => ?_) fun l s ih hl row h => ?_
  · have : row = [] := List.length_eq_zero_iff.mp h.1
    subst this
    exact ⟨0, rfl⟩
  · have s0 := hl s (List.mem_append_right _ List.mem_cons_self)
    have rl := h.1
    rw [List.length_append, List.length_singleton] at rl
    have gp : row[l.length]? = some (row[l.length]'(by omega)) := List.getElem?_eq_getElem _
    generalize row[l.length]'(by omega) = p at gp
    have er : row = row.take l.length ++ [p] := by
      rw [← take_snoc gp, List.take_of_length_le (by omega)]
    have ht := h.take l.length
    rw [List.take_left] at ht
    obtain ⟨k, hk⟩ := ih (fun x hx => hl x (List.mem_append_left _ hx)) _ ht
    have fo := h.2 l.length p s gp (by rw [List.getElem?_append_right (Nat.le_refl _), Nat.sub_self]; rfl)
    have fl := fills_many (us := us) (s + 1).toNat hu
    have fo' : FillOk (((s + 1).toNat : Nat) : Int) us p := by rw [show (((s + 1).toNat : Nat) : Int) = s + 1 by omega]; exact fo
    have fa := fill_at hu fo'
    have fb := fnum_bound (n := (((s + 1).toNat : Nat) : Int)) (by omega) fo'
    refine ⟨k * (fills (s + 1).toNat us us.length).length + (fnum (((s + 1).toNat : Nat) : Int) us p).toNat, ?_⟩
    rw [nsOf_snoc, powW_snoc]
    refine flat_put (by omega) (fun x _ => by rw [List.length_map]) hk ?_
    rw [List.getElem?_map, fa, er, List.take_append_of_le_length (by rw [List.length_take]; omega), List.take_take, Nat.min_self]
    rfl
theorem RowFill.num {us low : List Int} {row : List (Int × List Int)} (h : RowFill us low row) (hu : Small us) (hl : ∀ x ∈ low, 0 ≤ x) : 0 ≤ rnum us low row ∧ rnum us low row < pmZ us low ∧ (powW us (nsOf low))[(rnum us low row).toNat]? = some row := by
  obtain ⟨k, hk⟩ := powW_at hu low hl row h
  have e := powW_num hu low hl k row hk
  have := powW_len (us := us) low hl
  have kl := (List.getElem?_eq_some_iff.mp hk).1
  rw [e, Int.toNat_natCast]
  exact ⟨by omega, by omega, hk⟩
def upP (p : Int × List Int) : Int × List Int := (p.1, p.2.map fun x => x + 1)
/-! ### into a power -/
def rowP (w : Int) (p : Int × List Int) : Int × List Int := (p.1, p.2.map fun x => if w ≤ x then x - w else -1)
/-- the part of a way that belongs to one tray -/
structure PartOk (us low : List Int) (w : Int) (part : List (Int × List Int)) : Prop where
  len : part.length = low.length
  fo : ∀ (j : Nat) p s, part[j]? = some p → low[j]? = some s → FillOk (w + s) us p
theorem PartOk.row {us low : List Int} {w : Int} {part : List (Int × List Int)} (h : PartOk us low w part) (hl : ∀ x ∈ low, 0 ≤ x) : RowFill us low ((part.map (rowP w)).map upP) := by
  refine ⟨by rw [List.length_map, List.length_map]; exact h.len, fun j p s hp hs => ?_⟩
  rw [List.getElem?_map, List.getElem?_map] at hp
  cases hq : part[j]? with
  | none => rw [hq] at hp; cases hp
  | some q =>
    rw [hq] at hp
    have hp : upP (rowP w q) = p := Option.some.inj hp
    subst hp
    have s0 := hl s (List.mem_of_getElem? hs)
    obtain ⟨a0, a1, a2, a3⟩ := h.fo j q s hq hs
    refine ⟨a0, a1, ?_, fun y hy => ?_⟩
    · show us[q.1.toNat]? = some (((((q.2.map fun x => if w ≤ x then x - w else -1).map fun x => x + 1).length : Nat) : Int))
      rw [List.length_map, List.length_map]
      exact a2
    · obtain ⟨y1, h1, rfl⟩ := List.mem_map.mp hy
      obtain ⟨x, hx, rfl⟩ := List.mem_map.mp h1
      have := a3 x hx
      by_cases hwx : w ≤ x
      · rw [if_pos hwx]
        omega
      · rw [if_neg hwx]
        omega
theorem PartOk.lw {us low : List Int} {w : Int} {part : List (Int × List Int)} (h : PartOk us low w part) (t : TwoOk us low) : ∀ p ∈ part, p.2.length ≤ 3 := fun p hp => by
  obtain ⟨i, hi, hg⟩ := List.mem_iff_getElem.mp hp
  have hl := h.len
  have fo := h.fo i p (low[i]'(by omega)) (by rw [List.getElem?_eq_getElem hi, hg]) (List.getElem?_eq_getElem _)
  have := t.hu _ (List.mem_of_getElem? fo.2.2.1)
  omega
/-! ### there and back -/
/-! ### back and there -/
/-! ### ways ahead of a way into a power -/
noncomputable def F_renumbered__c : List PyData → Rs PyData := fn 5 (sRet (eCB tupleD (aCons (eL (lLc [2, 3] (iItems (eVar 0)) (gT 2 (gsC (gN 2) (gsC (gN 3) gsN))) tY (eTup (aCons (eVar 2) (aCons (eCB tupleCD (aCons (eL (lLc [4] (iItems (eVar 3)) (gN 4) tY (e2 addD (eVar 4) (eVar 1)))) aNil)) aNil))))) aNil)))
noncomputable def F_row_at__c : List PyData → Rs PyData := fn 3 (sRet (eCall F_renumbered__c (aCons (eCall F_way_at (aCons (eCall F_widened (aCons (eVar 1) aNil)) (aCons (eVar 0) (aCons (eVar 2) aNil)))) (aCons (eC (.int (-1))) aNil))))
noncomputable def F_rows_in_order : List PyData → Rs PyData := fn 4 (sSeq (sSet 2 (eCall F_ways_many (aCons (eCall F_widened (aCons (eVar 1) aNil)) (aCons (eVar 0) aNil))))
      (sSeq (sIf (tB' (e2 gtD (eVar 2) (eC (.int 60))))
      (sRaise "TooBig")
      sNil)
      (sRet (eL (lLc [3] (iRg (rg1D (eVar 2))) (gN 3) tY (eCall F_row_at (aCons (eVar 0) (aCons (eVar 1) (aCons (eVar 3) aNil)))))))))
noncomputable def F_rows_in_order__c : List PyData → Rs PyData := fn 4 (sSeq (sSet 2 (eCall F_ways_many (aCons (eCall F_widened (aCons (eVar 1) aNil)) (aCons (eVar 0) aNil))))
      (sSeq (sIf (tB' (e2 gtD (eVar 2) (eC (.int 60))))
      (sRaise "TooBig")
      sNil)
      (sRet (eL (lLc [3] (iRg (rg1D (eVar 2))) (gN 3) tY (eCall F_row_at__c (aCons (eVar 0) (aCons (eVar 1) (aCons (eVar 3) aNil)))))))))
noncomputable def F_power : List PyData → Rs PyData := fn 6 (sSeq (sSet 2 (eCall F_rows_in_order__c (aCons (eVar 0) (aCons (eVar 1) aNil))))
      (sRet (eCall F_bounded (aCons (eCB tupleD (aCons (eL (lLc [3] (iItems (eVar 2)) (gN 3) tY (eCB sumD (aCons (eL (lLc [4, 5] (iItems (eVar 3)) (gT 2 (gsC (gN 4) (gsC (gN 5) gsN))) tY (eCnt (eVar 5) (aCons (eC (.int (-1))) aNil)))) aNil)))) aNil)) aNil))))
/-! ### powers: the crate of open wells -/
theorem lc_ok {α β : Type} {enc : α → PyData} {out : β → PyData} {h : α → β} {xs : List α} {vs : List Nat} {it : Ev → Rs (List PyData)} {g : PyData → Ev → Rs Ev} {fe : Ev → Rs PyData} {ρ : Ev} (hi : it ρ = .ok (xs.map enc)) (hl : xs.length ≤ 1000000) (k : ∀ x ∈ xs, bd1 g tY fe (wipeE ρ vs) (enc x) = .ok [out (h x)]) : lLc vs it g tY fe ρ = .ok ((xs.map h).map out) := by
  rw [z_lLc, hi, bind_ok', lc_mapE k]
  exact cap_le (by rw [List.length_map, List.length_map, lim_eq]; omega)
structure PowOk (us low : List Int) : Prop where
  hu : Small us
  hul : us.length ≤ 60
  hl : ∀ x ∈ low, 0 ≤ x ∧ x ≤ 900
  hll : low.length ≤ 8
  cs : ∀ x ∈ low, cnt (x + 1) us ≤ 100000
def dPairC (p : Int × List Int) : PyData := .tuple [.int p.1, ctD (p.2.map PyData.int)]
def dWayC (row : List (Int × List Int)) : PyData := .tuple (row.map dPairC)
theorem renumC_ok {row : List (Int × List Int)} (hl : row.length ≤ 1000) (hp : ∀ p ∈ row, p.2.length ≤ 1000) : F_renumbered__c [dWay row, .int (-1)] = .ok (dWayC (row.map shP)) := by
  unfold F_renumbered__c
  refine fn_E (ρ := [some (false, dWay row), some (false, .int (-1)), none, none, none]) rfl ?_
  refine ret_R (d := dWayC (row.map shP)) ?_ rfl
  have ll := lc_ok (enc := dPair) (out := dPairC) (h := shP) (xs := row) (vs := [2, 3]) (it := iItems (eVar 0)) (g := gT 2 (gsC (gN 2) (gsC (gN 3) gsN))) (fe := eTup (aCons (eVar 2) (aCons (eCB tupleCD (aCons (eL (lLc [4] (iItems (eVar 3)) (gN 4) tY (e2 addD (eVar 4) (eVar 1)))) aNil)) aNil))) (ρ := [some (false, dWay row), some (false, .int (-1)), none, none, none]) rfl (by omega) fun p hpp => by
    have pl := hp p hpp
    have l2 := lc_ok (enc := PyData.int) (out := PyData.int) (h := fun x : Int => x + (-1)) (xs := p.2) (vs := [4]) (it := iItems (eVar 3)) (g := gN 4) (fe := e2 addD (eVar 4) (eVar 1)) (ρ := [some (false, dWay row), some (false, .int (-1)), some (false, .int p.1), some (false, cr p.2), none]) rfl (by omega) fun x hx => by
      show bd1 _ _ _ [some (false, dWay row), some (false, .int (-1)), some (false, .int p.1), some (false, cr p.2), none] _ = _
      simp
    show bd1 _ _ _ [some (false, dWay row), some (false, .int (-1)), none, none, none] _ = _
    have gt : gT 2 (gsC (gN 2) (gsC (gN 3) gsN)) (dPair p) [some (false, dWay row), some (false, .int (-1)), none, none, none] = .ok [some (false, dWay row), some (false, .int (-1)), some (false, .int p.1), some (false, cr p.2), none] := rfl
    have v2 : eVar 2 [some (false, dWay row), some (false, .int (-1)), some (false, .int p.1), some (false, cr p.2), none] = .ok (.int p.1) := rfl
    rw [z_bd1, gt, bind_ok', z_tY, bind_ok', if_pos (show true = true from rfl), z_tup, z_aCons, v2, bind_ok', z_aCons, z_CB, z_aCons, z_L, l2]
    rfl
  rw [z_CB, z_aCons, z_L, ll]
  rfl
theorem PowOk.mem {us low : List Int} (h : PowOk us low) {row : List (Int × List Int)} (hr : row ∈ powR us low) : row.length ≤ 8 ∧ ∀ p ∈ row, p.2.length ≤ 12 ∧ ∀ x ∈ p.2, -1 ≤ x := by
  have rl := powR_row low row hr
  refine ⟨by have := h.hll; omega, fun p hp => ?_⟩
  obtain ⟨a1, a2, a3, a4⟩ := powR_pairs h.hu low row hr p hp
  have := h.hu _ (List.mem_of_getElem? a3)
  exact ⟨by omega, a4⟩
theorem PowOk.row_atC {us low : List Int} {k : Nat} {row : List (Int × List Int)} (h : PowOk us low) (hr : (powR us low)[k]? = some row) : F_row_at__c [cr us, cr low, .int (k : Int)] = .ok (dWayC row) := by
  have hr0 := hr
  unfold powR at hr
  rw [List.getElem?_map] at hr
  cases hw : (powW us (nsOf low))[k]? with
  | none => rw [hw] at hr; cases hr
  | some r0 =>
    rw [hw] at hr
    cases hr
    have wa := way_at_ok h.hu h.hul h.hl h.hll h.cs hw
    have wd := widened_ok (low := low) (by have := h.hll; omega)
    obtain ⟨m1, m2⟩ := h.mem (List.mem_of_getElem? hr0)
    rw [List.length_map] at m1
    have rn := renumC_ok (row := r0) (by omega) fun p hp => by
      have := (m2 (shP p) (List.mem_map.mpr ⟨p, hp, rfl⟩)).1
      have e : (shP p).2.length = p.2.length := by show (sh p.2).length = _; unfold sh; rw [List.length_map]
      omega
    unfold F_row_at__c
    refine fn_E (ρ := [some (false, cr us), some (false, cr low), some (false, .int (k : Int))]) rfl ?_
    refine ret_R (d := dWayC (r0.map shP)) ?_ rfl
    simp only [z_call, z_aCons, z_var, z_aNil, List.getElem?_cons_succ, List.getElem?_cons_zero, bind_ok', wd, wa, z_C, rn]
theorem PowOk.row_at {us low : List Int} {k : Nat} {row : List (Int × List Int)} (h : PowOk us low) (hr : (powR us low)[k]? = some row) : F_row_at [cr us, cr low, .int (k : Int)] = .ok (dWay row) := by
  have hr0 := hr
  unfold powR at hr
  rw [List.getElem?_map] at hr
  cases hw : (powW us (nsOf low))[k]? with
  | none => rw [hw] at hr; cases hr
  | some r0 =>
    rw [hw] at hr
    cases hr
    have wa := way_at_ok h.hu h.hul h.hl h.hll h.cs hw
    have wd := widened_ok (low := low) (by have := h.hll; omega)
    obtain ⟨m1, m2⟩ := h.mem (List.mem_of_getElem? hr0)
    rw [List.length_map] at m1
    have rn := renumbered_ok (row := r0) (by omega) fun p hp => by
      have := (m2 (shP p) (List.mem_map.mpr ⟨p, hp, rfl⟩)).1
      have e : (shP p).2.length = p.2.length := by show (sh p.2).length = _; unfold sh; rw [List.length_map]
      omega
    unfold F_row_at
    refine fn_E (ρ := [some (false, cr us), some (false, cr low), some (false, .int (k : Int))]) rfl ?_
    refine ret_R (d := dWay (r0.map shP)) ?_ rfl
    simp only [z_call, z_aCons, z_var, z_aNil, List.getElem?_cons_succ, List.getElem?_cons_zero, bind_ok', wd, wa, z_C, rn]
theorem iota_zip {α : Type} (R : List α) : (iota (R.length : Int)).map (fun i : Int => R[i.toNat]?) = R.map some := by
  unfold iota
  rw [List.map_map, Int.toNat_natCast]
  refine List.ext_getElem? fun i => ?_
  rw [List.getElem?_map, List.getElem?_map]
  by_cases hi : i < R.length
  · rw [List.getElem?_range hi, List.getElem?_eq_getElem hi]
    show some (R[((i : Nat) : Int).toNat]?) = some (some R[i])
    rw [Int.toNat_natCast, List.getElem?_eq_getElem hi]
  · rw [List.getElem?_eq_none (by rw [List.length_range]; omega), List.getElem?_eq_none (by omega)]
    rfl
theorem iota_at {x i : Int} (h : i ∈ iota x) : 0 ≤ i ∧ i < x := by
  unfold iota at h
  obtain ⟨k, hk, rfl⟩ := List.mem_map.mp h
  have := List.mem_range.mp hk
  omega
theorem PowOk.len {us low : List Int} (h : PowOk us low) : ((powR us low).length : Int) = pmZ us low := powR_len low fun x hx => (h.hl x hx).1
theorem PowOk.orderC {us low : List Int} (h : PowOk us low) (hp : pmZ us low ≤ 60) : F_rows_in_order__c [cr us, cr low] = .ok (.list ((powR us low).map dWayC)) := by
  have wm := ways_many_ok h.hu h.hul h.hl h.hll h.cs
  have wd := widened_ok (low := low) (by have := h.hll; omega)
  have ln := h.len
  unfold F_rows_in_order__c
  refine fn_E (ρ := [some (false, cr us), some (false, cr low), none, none]) rfl ?_
  refine seq_R (ρ' := [some (false, cr us), some (false, cr low), some (false, .int (pmZ us low)), none]) (by simp only [z_set, z_call, z_aCons, z_var, z_aNil, List.getElem?_cons_succ, List.getElem?_cons_zero, bind_ok', wd, wm]; rfl) ?_
  refine seq_R (ρ' := [some (false, cr us), some (false, cr low), some (false, .int (pmZ us low)), none]) (by simp [show ¬ 60 < pmZ us low by omega]) ?_
  refine ret_R (d := .list ((powR us low).map dWayC)) ?_ rfl
  have ll := lc_ok (enc := PyData.int) (out := fun o : Option (List (Int × List Int)) => dWayC (o.getD [])) (h := fun i : Int => (powR us low)[i.toNat]?) (xs := iota (pmZ us low)) (vs := [3]) (it := iRg (rg1D (eVar 2))) (g := gN 3) (fe := eCall F_row_at__c (aCons (eVar 0) (aCons (eVar 1) (aCons (eVar 3) aNil)))) (ρ := [some (false, cr us), some (false, cr low), some (false, .int (pmZ us low)), none]) (by simp [rgOk0 (show 0 ≤ pmZ us low by omega) (by omega), rgD0]) (by rw [iota_len]; omega) fun i hi => by
    show bd1 _ _ _ [some (false, cr us), some (false, cr low), some (false, .int (pmZ us low)), none] _ = _
    obtain ⟨i0, i1⟩ := iota_at hi
    have g : (powR us low)[i.toNat]? = some ((powR us low)[i.toNat]'(by omega)) := List.getElem?_eq_getElem (by omega)
    have ra := h.row_atC g
    rw [show ((i.toNat : Nat) : Int) = i by omega] at ra
    rw [g]
    simp [ra]
  rw [z_L, ll]
  rw [← ln, iota_zip, List.map_map]
  rfl
theorem PowOk.order {us low : List Int} (h : PowOk us low) (hp : pmZ us low ≤ 60) : F_rows_in_order [cr us, cr low] = .ok (.list ((powR us low).map dWay)) := by
  have wm := ways_many_ok h.hu h.hul h.hl h.hll h.cs
  have wd := widened_ok (low := low) (by have := h.hll; omega)
  have ln := h.len
  unfold F_rows_in_order
  refine fn_E (ρ := [some (false, cr us), some (false, cr low), none, none]) rfl ?_
  refine seq_R (ρ' := [some (false, cr us), some (false, cr low), some (false, .int (pmZ us low)), none]) (by simp only [z_set, z_call, z_aCons, z_var, z_aNil, List.getElem?_cons_succ, List.getElem?_cons_zero, bind_ok', wd, wm]; rfl) ?_
  refine seq_R (ρ' := [some (false, cr us), some (false, cr low), some (false, .int (pmZ us low)), none]) (by simp [show ¬ 60 < pmZ us low by omega]) ?_
  refine ret_R (d := .list ((powR us low).map dWay)) ?_ rfl
  have ll := lc_ok (enc := PyData.int) (out := fun o : Option (List (Int × List Int)) => dWay (o.getD [])) (h := fun i : Int => (powR us low)[i.toNat]?) (xs := iota (pmZ us low)) (vs := [3]) (it := iRg (rg1D (eVar 2))) (g := gN 3) (fe := eCall F_row_at (aCons (eVar 0) (aCons (eVar 1) (aCons (eVar 3) aNil)))) (ρ := [some (false, cr us), some (false, cr low), some (false, .int (pmZ us low)), none]) (by simp [rgOk0 (show 0 ≤ pmZ us low by omega) (by omega), rgD0]) (by rw [iota_len]; omega) fun i hi => by
    show bd1 _ _ _ [some (false, cr us), some (false, cr low), some (false, .int (pmZ us low)), none] _ = _
    obtain ⟨i0, i1⟩ := iota_at hi
    have g : (powR us low)[i.toNat]? = some ((powR us low)[i.toNat]'(by omega)) := List.getElem?_eq_getElem (by omega)
    have ra := h.row_at g
    rw [show ((i.toNat : Nat) : Int) = i by omega] at ra
    rw [g]
    simp [ra]
  rw [z_L, ll]
  rw [← ln, iota_zip, List.map_map]
  rfl
theorem count_open : ∀ r : List Int, (∀ x ∈ r, -1 ≤ x) → (r.countP fun n => n == -1) = (r.filter fun x => decide (x < 0)).length
  | [], _ => rfl
  | x :: r, h => by
    have ih := count_open r fun y hy => h y (List.mem_cons_of_mem _ hy)
    have hx := h x List.mem_cons_self
    rw [List.countP_cons, List.filter_cons, ih]
    by_cases h0 : x < 0
    · have e : x = -1 := by omega
      subst e
      simp
    · have e : (x == -1) = false := by rw [beq_eq_false_iff_ne]; omega
      rw [if_neg (by rw [e]; exact Bool.false_ne_true), if_neg (by rw [decide_eq_true_eq]; exact h0), Nat.add_zero]
theorem crate_by {ws : List Int} (h : Small ws) (hl : ws.length ≤ 60) : crateD (cr ws) = true := by
  show (decide ((ws.map PyData.int).length ≤ 60) && (ws.map PyData.int).all (wellD 13)) = true
  rw [List.length_map, decide_eq_true hl, Bool.true_and, List.all_eq_true]
  intro d hd
  obtain ⟨x, hx, rfl⟩ := List.mem_map.mp hd
  have := h x hx
  show (decide (0 ≤ x) && decide (x < 13)) = true
  rw [decide_eq_true (by omega), decide_eq_true (by omega)]
  rfl
/-- the power told, or refused -/
theorem PowOk.told {us low : List Int} (h : PowOk us low) (hp : pmZ us low ≤ 60) : F_power [cr us, cr low] = F_bounded [cr ((powR us low).map opn)] := by
  have oc := h.orderC hp
  have ln := h.len
  have ll := lc_ok (enc := dWayC) (out := PyData.int) (h := opn) (xs := powR us low) (vs := [3]) (it := iItems (eVar 2)) (g := gN 3) (fe := eCB sumD (aCons (eL (lLc [4, 5] (iItems (eVar 3)) (gT 2 (gsC (gN 4) (gsC (gN 5) gsN))) tY (eCnt (eVar 5) (aCons (eC (.int (-1))) aNil)))) aNil)) (ρ := [some (false, cr us), some (false, cr low), some (false, .list ((powR us low).map dWayC)), none, none, none]) rfl (by omega) fun row hr => by
    show bd1 _ _ _ [some (false, cr us), some (false, cr low), some (false, .list ((powR us low).map dWayC)), none, none, none] _ = _
    obtain ⟨m1, m2⟩ := h.mem hr
    have l2 := lc_ok (enc := dPairC) (out := PyData.int) (h := fun p : Int × List Int => ((p.2.filter fun x => decide (x < 0)).length : Int)) (xs := row) (vs := [4, 5]) (it := iItems (eVar 3)) (g := gT 2 (gsC (gN 4) (gsC (gN 5) gsN))) (fe := eCnt (eVar 5) (aCons (eC (.int (-1))) aNil)) (ρ := [some (false, cr us), some (false, cr low), some (false, .list ((powR us low).map dWayC)), some (false, dWayC row), none, none]) rfl (by omega) fun p hpp => by
      show bd1 _ _ _ [some (false, cr us), some (false, cr low), some (false, .list ((powR us low).map dWayC)), some (false, dWayC row), none, none] _ = _
      have gt : gT 2 (gsC (gN 4) (gsC (gN 5) gsN)) (dPairC p) [some (false, cr us), some (false, cr low), some (false, .list ((powR us low).map dWayC)), some (false, dWayC row), none, none] = .ok [some (false, cr us), some (false, cr low), some (false, .list ((powR us low).map dWayC)), some (false, dWayC row), some (false, .int p.1), some (false, ctD (p.2.map PyData.int))] := rfl
      have cn : eCnt (eVar 5) (aCons (eC (.int (-1))) aNil) [some (false, cr us), some (false, cr low), some (false, .list ((powR us low).map dWayC)), some (false, dWayC row), some (false, .int p.1), some (false, ctD (p.2.map PyData.int))] = .ok (.int ((p.2.filter fun x => decide (x < 0)).length : Int)) := by
        show (match asInts (p.2.map PyData.int) with | some ns => Rs.ok (PyData.int ((ns.countP fun n => n == -1 : Nat) : Int)) | none => .bad) = _
        rw [asInts_map, ← count_open p.2 (m2 p hpp).2]
      rw [z_bd1, gt, bind_ok', z_tY, bind_ok', if_pos (show true = true from rfl), cn]
      rfl
    have sm := q_sum (row.map fun p : Int × List Int => ((p.2.filter fun x => decide (x < 0)).length : Int))
    have g3 : gN 3 (dWayC row) [some (false, cr us), some (false, cr low), some (false, .list ((powR us low).map dWayC)), none, none, none] = .ok [some (false, cr us), some (false, cr low), some (false, .list ((powR us low).map dWayC)), some (false, dWayC row), none, none] := rfl
    rw [z_bd1, g3, bind_ok', z_tY, bind_ok', if_pos (show true = true from rfl), z_CB, z_aCons, z_L, l2]
    show ((sumD [.list _]).bind _) = _
    rw [sm]
    rfl
  have s1 : sSet 2 (eCall F_rows_in_order__c (aCons (eVar 0) (aCons (eVar 1) aNil))) [some (false, cr us), some (false, cr low), none, none, none, none] = .ok (.nx [some (false, cr us), some (false, cr low), some (false, .list ((powR us low).map dWayC)), none, none, none]) := by
    simp only [z_set, z_call, z_aCons, z_var, z_aNil, List.getElem?_cons_succ, List.getElem?_cons_zero, bind_ok', oc]
    rfl
  unfold F_power
  show (sSeq _ _ [some (false, cr us), some (false, cr low), none, none, none, none]).bind _ = _
  rw [z_seq, s1]
  show (sRet _ [some (false, cr us), some (false, cr low), some (false, .list ((powR us low).map dWayC)), none, none, none]).bind _ = _
  rw [z_ret, z_call, z_aCons, z_CB, z_aCons, z_L, ll]
  show ((F_bounded [.tuple _]).bind _).bind _ = _
  generalize F_bounded [.tuple _] = r
  cases r <;> rfl
theorem PowOk.power {us low : List Int} (h : PowOk us low) (hp : pmZ us low ≤ 60) (ho : ∀ row ∈ powR us low, opn row ≤ 12) : F_power [cr us, cr low] = .ok (cr ((powR us low).map opn)) := by
  have ln := h.len
  rw [h.told hp, bounded_cr (by rw [List.length_map]; omega), if_pos]
  refine crate_by (fun x hx => ?_) (by rw [List.length_map]; omega)
  obtain ⟨row, hr, rfl⟩ := List.mem_map.mp hx
  exact ⟨opn_nn row, ho row hr⟩
/-! ### products -/
theorem cnt_cons (n x : Int) (ws : List Int) : cnt n (x :: ws) = n ^ x.toNat + cnt n ws := by
  unfold cnt
  rw [List.map_cons, List.sum_cons]
/-! ### how many fillings a power has -/
/-! ### two crates made smaller till their power is small -/
/-! ### the way from the product of a power and the lower crate -/
/-! ### a def of several statements that gives a new list -/
section
variable {S : Sx} {w : Bool}
/-! ### tests that change a pen -/
def EZT (S : Sx) (B : Addr → Prop) (H0 : Hp) (N : Addr → Prop) (σ : L2.St) (H : Hp) (Q : Bool → Hp → Prop) (E : XK) : Rs (Bool × Ev) → Prop
  | .bad => False
  | .err c => ∀ H', Same H0 H' → E (.ref (S.cls c)) none H'
  | .ok z => ∀ H', Rep S.K B H0 N σ H' z.2 → KeepF N H N H' → Q z.1 H'
theorem EZT.from {B : Addr → Prop} {H0 : Hp} {N : Addr → Prop} {σ : L2.St} {H H' : Hp} {Q : Bool → Hp → Prop} {E : XK} {r : Rs (Bool × Ev)} (kf : KeepF N H N H') (k : EZT S B H0 N σ H Q E r) : EZT S B H0 N σ H' Q E r := by
  cases r with
  | bad => exact k
  | err c => exact k
  | ok z => exact fun H2 r2 k2 => k H2 r2 (kf.trans k2)
end
end Tm

namespace Tm
open PySem PySem.Spec PyProof.Rows L2
section
variable {S : Sx}
/-! ### try: .. except C: return c -/
end
section
variable {S : Sx} {w : Bool}
/-! ### str(int) -/
end
/-! ### list(range(i, j, c)) -/
section
variable {S : Sx}
/-! ### more tests that change a pen -/
/-! ### is not True -/
end
noncomputable def F_put_about_all : List PyData → Rs PyData := fn 4 (sSeq (sAsg (eVar 0) (gT 3 (gsC (gN 1) (gsC (gN 2) (gsC (gN 3) gsN)))))
      (sRet (eCall F_after (aCons (eCall F_put_way (aCons (eTup (aCons (eC (.tuple [.int 1])) (aCons (eVar 1) aNil))) (aCons (eTup (aCons (eVar 1) (aCons (eVar 1) aNil))) (aCons (eVar 2) (aCons (eCall F_idle (aCons (eVar 1) aNil)) aNil))))) (aCons (eVar 3) aNil)))))
noncomputable def F_put_about_each : List PyData → Rs PyData := fn 4 (sSeq (sAsg (eVar 0) (gT 3 (gsC (gN 1) (gsC (gN 2) (gsC (gN 3) gsN)))))
      (sRet (eCall F_after (aCons (eCall F_put_way (aCons (eTup (aCons (eVar 1) (aCons (eVar 1) aNil))) (aCons (eTup (aCons (eC (.tuple [.int 1])) (aCons (eVar 1) aNil))) (aCons (eCall F_idle (aCons (eVar 1) aNil)) (aCons (eVar 2) aNil))))) (aCons (eVar 3) aNil)))))
noncomputable def F_outer_first : List PyData → Rs PyData := fn 6 (sSeq (sAsg (eVar 0) (gT 3 (gsC (gN 1) (gsC (gN 2) (gsC (gN 3) gsN)))))
      (sSeq (sSet 4 (eCall F_put (aCons (eVar 1) (aCons (eVar 1) aNil))))
      (sSeq (sSet 5 (eCall F_put_way (aCons (eTup (aCons (eVar 4) (aCons (eVar 1) aNil))) (aCons (eTup (aCons (eVar 1) (aCons (eVar 1) aNil))) (aCons (eVar 3) (aCons (eCall F_idle (aCons (eVar 1) aNil)) aNil))))))
      (sRet (eCall F_after (aCons (eCall F_after (aCons (eCall F_regrouped (aCons (eVar 1) (aCons (eVar 1) (aCons (eVar 1) aNil)))) (aCons (eVar 5) aNil))) (aCons (eVar 3) aNil)))))))
noncomputable def F_inner_first : List PyData → Rs PyData := fn 5 (sSeq (sAsg (eVar 0) (gT 3 (gsC (gN 1) (gsC (gN 2) (gsC (gN 3) gsN)))))
      (sSeq (sSet 4 (eCall F_put (aCons (eVar 1) (aCons (eVar 1) aNil))))
      (sRet (eCall F_after (aCons (eCall F_put_way (aCons (eTup (aCons (eVar 1) (aCons (eVar 1) aNil))) (aCons (eTup (aCons (eVar 4) (aCons (eVar 1) aNil))) (aCons (eCall F_idle (aCons (eVar 1) aNil)) (aCons (eVar 3) aNil))))) (aCons (eVar 3) aNil))))))
noncomputable def F_held : List PyData → Rs PyData := fn 8 (sSeq (sAsg (eVar 0) (gT 3 (gsC (gN 1) (gsC (gN 2) (gsC (gN 3) gsN)))))
      (sSeq (sSet 4 (eCall F_put (aCons (eVar 1) (aCons (eCall F_put (aCons (eVar 1) (aCons (eVar 1) aNil))) aNil))))
      (sSeq (sFor (iEnumD (eL (aCons (eCall F_put_about_all (aCons (eVar 0) aNil)) (aCons (eCall F_put_about_each (aCons (eVar 0) aNil)) aNil)))) (gT 2 (gsC (gN 5) (gsC (gN 6) gsN)))
      (sSeq (sSet 7 (eCall F_parting (aCons (eVar 1) (aCons (eVar 6) (aCons (eCall F_idle (aCons (eVar 1) aNil)) aNil)))))
      (sIf (tB' (e2 isNotD (eVar 7) (eC .none)))
      (sRet (eTup (aCons (eC (.str "parts")) (aCons (eVar 5) (aCons (eVar 7) aNil)))))
      sNil)))
      (sSeq (sSet 7 (eCall F_parting (aCons (eVar 4) (aCons (eCall F_outer_first (aCons (eVar 0) aNil)) (aCons (eCall F_inner_first (aCons (eVar 0) aNil)) aNil)))))
      (sSeq (sIf (tB' (e2 isNotD (eVar 7) (eC .none)))
      (sRet (eTup (aCons (eC (.str "parts")) (aCons (eC (.int 2)) (aCons (eCall F_unpacked_twice (aCons (eVar 1) (aCons (eVar 1) (aCons (eVar 1) (aCons (eVar 7) aNil))))) aNil)))))
      sNil)
      (sRet (eTup (aCons (eC (.str "holds")) aNil))))))))
/-- the other way about -/
theorem PutOk.turn {a b c : List Int} (ha : Small a) (hb : Small b) (hc : Small c) (hab : PutOk a b) (hbc : PutOk b c) (h : PutOk a (putC b c)) : PutOk (putC a b) c := by
  have hlen := putC_len c hb
  have hn : cnt (c.length : Int) (putC a b) = ((putC a (putC b c)).length : Int) := by
    rw [cnt_put fun x hx => (hb x hx).1, putC_len _ ha, hlen]
  have hs := crate_small h.c
  refine ⟨?_, ?_⟩
  · rw [hn]
    have := hs.2
    omega
  · refine crate_mk (reg_small ha hb hc (crate_small hab.c).1 (crate_small hbc.c).1 hs.1 hn) ?_
    have := putC_len c (crate_small hab.c).1
    have := hs.2
    omega
/-! ### keepers -/
abbrev Wy := List (Int × List Int)
def keepD (c : List Int) (one flat : Wy) : PyData := .tuple [cr c, dWay one, dWay flat]
structure KeepOk (c : List Int) (one flat : Wy) : Prop where
  s : Small c
  l : c.length ≤ 60
  p2 : PutOk c c
  o : WayOk [1] c one
  f : WayOk (putC c c) c flat
def road0 (c : List Int) (one flat : Wy) : Wy := thenW (putW [1] c c c one (idleW c)) flat
def road1 (c : List Int) (one flat : Wy) : Wy := thenW (putW c [1] c c (idleW c) one) flat
def roadA (c : List Int) (flat : Wy) : Wy := thenW (thenW (regW c c c) (putW (putC c c) c c c flat (idleW c))) flat
def roadB (c : List Int) (flat : Wy) : Wy := thenW (putW c (putC c c) c c (idleW c) flat) flat
def flatF (c : List Int) (flat : Wy) (D : Int × List (Int × List Int)) : Int × List Int := stepW flat (packI c c D)
theorem small_one : Small [1] := fun x hx => by
  rw [List.mem_singleton.mp hx]
  omega
section
variable {c : List Int} {one flat : Wy}
theorem KeepOk.s2 (k : KeepOk c one flat) : Small (putC c c) := (crate_small k.p2.c).1
theorem KeepOk.l2 (k : KeepOk c one flat) : (putC c c).length ≤ 60 := (crate_small k.p2.c).2
theorem KeepOk.nn (k : KeepOk c one flat) : ∀ x ∈ c, 0 ≤ x := fun x hx => (k.s x hx).1
theorem KeepOk.idle (k : KeepOk c one flat) : WayOk c c (idleW c) := idle_ok k.nn
theorem KeepOk.pL (k : KeepOk c one flat) : PutOk [1] c := ⟨by
  show (c.length : Int) ^ (1 : Int).toNat + 0 ≤ 60
  have := k.l
  have e : (c.length : Int) ^ (1 : Int).toNat = (c.length : Int) := by
    show (c.length : Int) ^ 1 = _
    rw [Int.pow_succ, Int.pow_zero, Int.one_mul]
  omega, by
  rw [putC_oneL]
  exact crate_mk k.s k.l⟩
theorem one_cnt : ∀ ws : List Int, cnt (1 : Int) ws = (ws.length : Int)
  | [] => rfl
  | x :: ws => by
    rw [cnt_cons, one_cnt ws, Int.one_pow, List.length_cons]
    omega
theorem KeepOk.pR (k : KeepOk c one flat) : PutOk c [1] := ⟨by
  show cnt ((1 : Nat) : Int) c ≤ 60
  have := one_cnt c
  have := k.l
  show cnt 1 c ≤ 60
  omega, by
  rw [putC_oneR k.nn]
  exact crate_mk k.s k.l⟩
theorem KeepOk.r0 (k : KeepOk c one flat) : WayOk c c (road0 c one flat) := by
  have h := put_ok small_one k.s k.s k.o k.idle
  rw [putC_oneL] at h
  exact then_ok h k.f
theorem KeepOk.r1 (k : KeepOk c one flat) : WayOk c c (road1 c one flat) := by
  have h := put_ok k.s small_one k.s k.idle k.o
  rw [putC_oneR k.nn] at h
  exact then_ok h k.f
theorem after_len {ws us xs : List Int} {v w : Wy} (hv : WayOk ws us v) (hw : WayOk us xs w) (hx : Small xs) (hl : ws.length ≤ 60) : F_after [dWay v, dWay w] = .ok (dWay (thenW v w)) := after_way hv hw (fun y hy => by have := hx y hy; omega) (by omega)
theorem KeepOk.f0 (k : KeepOk c one flat) : F_put_about_all [keepD c one flat] = .ok (dWay (road0 c one flat)) := by
  have i1 := idle_cr (ws := c) (fun x hx => by have := k.s x hx; omega) (by have := k.l; omega)
  have p := put_wayI (us := [1]) (vs := c) (ws := c) (xs := c) (v := one) (w := idleW c) small_one (by decide) k.s k.l k.s k.l k.s k.l k.pL.c k.pL.n k.o k.idle
  have h := put_ok small_one k.s k.s k.o k.idle
  rw [putC_oneL] at h
  have a := after_len h k.f k.s k.l
  have e : cr [1] = .tuple [.int 1] := rfl
  rw [e] at p
  simp [F_put_about_all, keepD, i1, p, a, road0]
theorem KeepOk.f1 (k : KeepOk c one flat) : F_put_about_each [keepD c one flat] = .ok (dWay (road1 c one flat)) := by
  have i1 := idle_cr (ws := c) (fun x hx => by have := k.s x hx; omega) (by have := k.l; omega)
  have p := put_wayI (us := c) (vs := c) (ws := [1]) (xs := c) (v := idleW c) (w := one) k.s k.l k.s k.l small_one (by decide) k.s k.l k.pR.c k.pR.n k.idle k.o
  have h := put_ok k.s small_one k.s k.idle k.o
  rw [putC_oneR k.nn] at h
  have a := after_len h k.f k.s k.l
  have e : cr [1] = .tuple [.int 1] := rfl
  rw [e] at p
  simp [F_put_about_each, keepD, i1, p, a, road1]
theorem KeepOk.put (k : KeepOk c one flat) : F_put [cr c, cr c] = .ok (cr (putC c c)) := k.p2.put k.s k.l k.l
/-- three layers within the bounds -/
structure Keep3 (c : List Int) (one flat : Wy) : Prop extends KeepOk c one flat where
  p3 : PutOk c (putC c c)
theorem Keep3.q3 (k : Keep3 c one flat) : PutOk (putC c c) c := PutOk.turn k.s k.s k.s k.p2 k.p2 k.p3
theorem Keep3.s3 (k : Keep3 c one flat) : Small (putC c (putC c c)) := (crate_small k.p3.c).1
theorem Keep3.l3 (k : Keep3 c one flat) : (putC c (putC c c)).length ≤ 60 := (crate_small k.p3.c).2
theorem Keep3.reg (k : Keep3 c one flat) : WayOk (putC c (putC c c)) (putC (putC c c) c) (regW c c c) := reg_way k.s k.s k.s k.toKeepOk.s2 k.toKeepOk.s2
theorem Keep3.rA (k : Keep3 c one flat) : WayOk (putC c (putC c c)) c (roadA c flat) := then_ok (then_ok k.reg (put_ok k.toKeepOk.s2 k.s k.s k.f k.toKeepOk.idle)) k.f
theorem Keep3.rB (k : Keep3 c one flat) : WayOk (putC c (putC c c)) c (roadB c flat) := then_ok (put_ok k.s k.toKeepOk.s2 k.s k.toKeepOk.idle k.f) k.f
theorem Keep3.fA (k : Keep3 c one flat) : F_outer_first [keepD c one flat] = .ok (dWay (roadA c flat)) := by
  have i1 := idle_cr (ws := c) (fun x hx => by have := k.s x hx; omega) (by have := k.l; omega)
  have pu := k.toKeepOk.put
  have s4 := (crate_small k.q3.c)
  have p := put_wayI (us := putC c c) (vs := c) (ws := c) (xs := c) (v := flat) (w := idleW c) k.toKeepOk.s2 k.toKeepOk.l2 k.s k.l k.s k.l k.s k.l k.q3.c k.q3.n k.f k.toKeepOk.idle
  have r := regrouped_ok k.s k.l k.s k.l k.s k.l k.p2 k.p2 k.p3
  have w1 := put_ok (us := putC c c) (vs := c) (ws := c) (xs := c) k.toKeepOk.s2 k.s k.s k.f k.toKeepOk.idle
  have a1 := after_len k.reg w1 k.toKeepOk.s2 k.l3
  have a2 := after_len (then_ok k.reg w1) k.f k.s k.l3
  unfold F_outer_first
  refine fn_E (ρ := [some (false, keepD c one flat), none, none, none, none, none]) rfl ?_
  refine seq_R (ρ' := [some (false, keepD c one flat), some (false, cr c), some (false, dWay one), some (false, dWay flat), none, none]) (by simp [keepD]) ?_
  refine seq_R (ρ' := [some (false, keepD c one flat), some (false, cr c), some (false, dWay one), some (false, dWay flat), some (false, cr (putC c c)), none]) (by simp [pu]) ?_
  refine seq_R (ρ' := [some (false, keepD c one flat), some (false, cr c), some (false, dWay one), some (false, dWay flat), some (false, cr (putC c c)), some (false, dWay (putW (putC c c) c c c flat (idleW c)))]) (by simp [i1, p]) ?_
  exact ret_R (d := dWay (roadA c flat)) (by simp [r, a1, a2, roadA]) rfl
theorem Keep3.fB (k : Keep3 c one flat) : F_inner_first [keepD c one flat] = .ok (dWay (roadB c flat)) := by
  have i1 := idle_cr (ws := c) (fun x hx => by have := k.s x hx; omega) (by have := k.l; omega)
  have pu := k.toKeepOk.put
  have p := put_wayI (us := c) (vs := c) (ws := putC c c) (xs := c) (v := idleW c) (w := flat) k.s k.l k.s k.l k.toKeepOk.s2 k.toKeepOk.l2 k.s k.l k.p3.c k.p3.n k.toKeepOk.idle k.f
  have w1 := put_ok (us := c) (vs := c) (ws := putC c c) (xs := c) k.s k.toKeepOk.s2 k.s k.toKeepOk.idle k.f
  have a1 := after_len w1 k.f k.s k.l3
  unfold F_inner_first
  refine fn_E (ρ := [some (false, keepD c one flat), none, none, none, none]) rfl ?_
  refine seq_R (ρ' := [some (false, keepD c one flat), some (false, cr c), some (false, dWay one), some (false, dWay flat), none]) (by simp [keepD]) ?_
  refine seq_R (ρ' := [some (false, keepD c one flat), some (false, cr c), some (false, dWay one), some (false, dWay flat), some (false, cr (putC c c))]) (by simp [pu]) ?_
  exact ret_R (d := dWay (roadB c flat)) (by simp [i1, p, a1, roadB]) rfl
/-- a filling that parts two ways, as the program marks it -/
def PartF (ws : List Int) (v w : Wy) (f : Int × List Int) : Prop := ∃ (i : Nat) (p q : Int × List Int) (x : Int), v[i]? = some p ∧ w[i]? = some q ∧ ws[i]? = some x ∧ p ≠ q ∧ f = markF (i : Int) x (ppart p q)
theorem PartF.ne {ws : List Int} {v w : Wy} {f : Int × List Int} (h : PartF ws v w f) : v ≠ w := by
  obtain ⟨i, p, q, x, h1, h2, h3, h4, _⟩ := h
  intro e
  rw [e, h2] at h1
  exact h4 (Option.some.inj h1).symm
theorem PartF.fill {ws : List Int} {v w : Wy} {f : Int × List Int} (h : PartF ws v w f) (hs : Small ws) : FillOk 2 ws f := by
  obtain ⟨i, p, q, x, h1, h2, h3, h4, rfl⟩ := h
  exact mark_ok h3 (hs x (List.mem_of_getElem? h3)).1
theorem PartF.parts {ws us : List Int} {v w : Wy} {f : Int × List Int} (h : PartF ws v w f) (hs : Small ws) (hv : WayOk ws us v) (hw : WayOk ws us w) : stepW v f ≠ stepW w f := by
  obtain ⟨i, p, q, x, h1, h2, h3, h4, rfl⟩ := h
  have n := part_ne (i := (i : Int)) (hv.2 i p x h1 h3) (hw.2 i q x h2 h3) h4
  have e1 : stepW v (markF (i : Int) x (ppart p q)) = (p.1, p.2.map (pick (markF (i : Int) x (ppart p q)).2)) := step_some (by show v[((i : Nat) : Int).toNat]? = _; rw [Int.toNat_natCast]; exact h1)
  have e2 : stepW w (markF (i : Int) x (ppart p q)) = (q.1, q.2.map (pick (markF (i : Int) x (ppart p q)).2)) := step_some (by show w[((i : Nat) : Int).toNat]? = _; rw [Int.toNat_natCast]; exact h2)
  rw [e1, e2]
  exact n
def deep3 (c : List Int) (f : Int × List Int) : PyData := .tuple [.int (unpackI c (putC c c) f).1, .tuple ((unpackI c (putC c c) f).2.map fun g => deepD (unpackI c c g))]
def HeldV (c : List Int) (one flat : Wy) (d : PyData) : Prop :=
  (d = .tuple [.str "holds"] ∧ road0 c one flat = idleW c ∧ road1 c one flat = idleW c ∧ roadA c flat = roadB c flat) ∨
  (∃ f, d = .tuple [.str "parts", .int 0, dPair f] ∧ PartF c (road0 c one flat) (idleW c) f) ∨
  (∃ f, d = .tuple [.str "parts", .int 1, dPair f] ∧ road0 c one flat = idleW c ∧ PartF c (road1 c one flat) (idleW c) f) ∨
  (∃ f, d = .tuple [.str "parts", .int 2, deep3 c f] ∧ road0 c one flat = idleW c ∧ road1 c one flat = idleW c ∧ PartF (putC c (putC c c)) (roadA c flat) (roadB c flat) f)
theorem Keep3.held (k : Keep3 c one flat) : ∃ d, F_held [keepD c one flat] = .ok d ∧ HeldV c one flat d := by
  have i1 := idle_cr (ws := c) (fun x hx => by have := k.s x hx; omega) (by have := k.l; omega)
  have pu := k.toKeepOk.put
  have pu3 := k.p3.put k.s k.l k.toKeepOk.l2
  have f0 := k.toKeepOk.f0
  have f1 := k.toKeepOk.f1
  have fA := k.fA
  have fB := k.fB
  generalize hK : keepD c one flat = K at f0 f1 fA fB
  obtain ⟨d0, e0, c0⟩ := parting_ok k.s k.s k.toKeepOk.r0 k.toKeepOk.idle
  obtain ⟨d1, e1, c1⟩ := parting_ok k.s k.s k.toKeepOk.r1 k.toKeepOk.idle
  obtain ⟨d2, e2, c2⟩ := parting_ok k.s3 k.s k.rA k.rB
  unfold F_held
  refine fn_R (ρ := [some (false, K), none, none, none, none, none, none, none]) rfl ?_
  refine seq_R (ρ' := [some (false, K), some (false, cr c), some (false, dWay one), some (false, dWay flat), none, none, none, none]) (by rw [← hK]; simp [keepD]) ?_
  refine seq_R (ρ' := [some (false, K), some (false, cr c), some (false, dWay one), some (false, dWay flat), some (false, cr (putC c (putC c c))), none, none, none]) (by simp [pu, pu3]) ?_
  have tp : ∀ (i j : PyData) (j7 : Option (Bool × PyData)), (gT 2 (gsC (gN 5) (gsC (gN 6) gsN))) (.tuple [i, j]) [some (false, K), some (false, cr c), some (false, dWay one), some (false, dWay flat), some (false, cr (putC c (putC c c))), none, none, j7] = .ok [some (false, K), some (false, cr c), some (false, dWay one), some (false, dWay flat), some (false, cr (putC c (putC c c))), some (false, i), some (false, j), j7] := fun i j j7 => by simp
  refine for_ROr (ds := [.tuple [.int 0, dWay (road0 c one flat)], .tuple [.int 1, dWay (road1 c one flat)]]) (by simp [f0, f1]; rfl) (fun i ρ => ∃ j5 j6 j7 : Option (Bool × PyData), ρ = [some (false, K), some (false, cr c), some (false, dWay one), some (false, dWay flat), some (false, cr (putC c (putC c c))), j5, j6, j7] ∧ (1 ≤ i → road0 c one flat = idleW c) ∧ (2 ≤ i → road1 c one flat = idleW c)) (fun z => HeldV c one flat z) ⟨none, none, none, rfl, fun z => absurd z (by omega), fun z => absurd z (by omega)⟩ ?_ ?_ (fun z h => h)
  · intro i d ρ hd ⟨j5, j6, j7, hρ, h0, h1⟩
    subst hρ
    match i, hd with
    | 0, hd =>
      cases hd
      refine tor_turn (ρ' := [some (false, K), some (false, cr c), some (false, dWay one), some (false, dWay flat), some (false, cr (putC c (putC c c))), some (false, .int 0), some (false, dWay (road0 c one flat)), j7]) (by simp) ?_
      refine tor_seq (ρ' := [some (false, K), some (false, cr c), some (false, dWay one), some (false, dWay flat), some (false, cr (putC c (putC c c))), some (false, .int 0), some (false, dWay (road0 c one flat)), some (false, d0)]) (by simp [i1, e0]) ?_
      rcases c0 with ⟨rfl, q⟩ | q
      · exact .inl ⟨[some (false, K), some (false, cr c), some (false, dWay one), some (false, dWay flat), some (false, cr (putC c (putC c c))), some (false, .int 0), some (false, dWay (road0 c one flat)), some (false, .none)], (by simp [q_isNot]), _, _, _, rfl, fun _ => q, fun z => absurd z (by omega)⟩
      · have q' := q
        obtain ⟨i, p, r, x, q1, q2, q3, q4, rfl⟩ := q
        refine .inr ⟨.tuple [.str "parts", .int 0, dPair (markF (i : Int) x (ppart p r))], ?_, .inr (.inl ⟨_, rfl, i, p, r, x, q1, q2, q3, q4, rfl⟩)⟩
        have nn : isNoneD (dPair (markF (i : Int) x (ppart p r))) = false := rfl
        simp [q_isNot, nn]
    | 1, hd =>
      cases hd
      refine tor_turn (ρ' := [some (false, K), some (false, cr c), some (false, dWay one), some (false, dWay flat), some (false, cr (putC c (putC c c))), some (false, .int 1), some (false, dWay (road1 c one flat)), j7]) (by simp) ?_
      refine tor_seq (ρ' := [some (false, K), some (false, cr c), some (false, dWay one), some (false, dWay flat), some (false, cr (putC c (putC c c))), some (false, .int 1), some (false, dWay (road1 c one flat)), some (false, d1)]) (by simp [i1, e1]) ?_
      rcases c1 with ⟨rfl, q⟩ | q
      · exact .inl ⟨[some (false, K), some (false, cr c), some (false, dWay one), some (false, dWay flat), some (false, cr (putC c (putC c c))), some (false, .int 1), some (false, dWay (road1 c one flat)), some (false, .none)], (by simp [q_isNot]), _, _, _, rfl, fun _ => h0 (by omega), fun _ => q⟩
      · obtain ⟨i, p, r, x, q1, q2, q3, q4, rfl⟩ := q
        refine .inr ⟨.tuple [.str "parts", .int 1, dPair (markF (i : Int) x (ppart p r))], ?_, .inr (.inr (.inl ⟨_, rfl, h0 (by omega), i, p, r, x, q1, q2, q3, q4, rfl⟩))⟩
        have nn : isNoneD (dPair (markF (i : Int) x (ppart p r))) = false := rfl
        simp [q_isNot, nn]
  · intro ρ ⟨j5, j6, j7, hρ, h0, h1⟩
    subst hρ
    have h0 := h0 (by show 1 ≤ 2; omega)
    have h1 := h1 (by show 2 ≤ 2; omega)
    refine seq_R (ρ' := [some (false, K), some (false, cr c), some (false, dWay one), some (false, dWay flat), some (false, cr (putC c (putC c c))), j5, j6, some (false, d2)]) (by simp [fA, fB, e2]) ?_
    rcases c2 with ⟨rfl, q⟩ | q
    · refine seq_R (ρ' := [some (false, K), some (false, cr c), some (false, dWay one), some (false, dWay flat), some (false, cr (putC c (putC c c))), j5, j6, some (false, .none)]) (by simp [q_isNot]) ?_
      exact ret_R (d := .tuple [.str "holds"]) (by simp) (.inl ⟨rfl, h0, h1, q⟩)
    · obtain ⟨i, p, r, x, q1, q2, q3, q4, rfl⟩ := q
      have pf : PartF (putC c (putC c c)) (roadA c flat) (roadB c flat) (markF (i : Int) x (ppart p r)) := ⟨i, p, r, x, q1, q2, q3, q4, rfl⟩
      have fl := pf.fill k.s3
      have ml : (markF (i : Int) x (ppart p r)).2.length ≤ 100000 := by
        have e := fill_pick fl
        have := k.s3 x (List.mem_of_getElem? q3)
        have e2 : pick (putC c (putC c c)) (markF (i : Int) x (ppart p r)).1 = x := by
          show (putC c (putC c c)).getD ((i : Nat) : Int).toNat 0 = x
          rw [Int.toNat_natCast, List.getD_eq_getElem?_getD, q3]
          rfl
        rw [e2] at e
        omega
      have ut := unpacked_twice k.s k.l k.s k.l k.s k.l k.p2 fl ml
      have nn : isNoneD (dPair (markF (i : Int) x (ppart p r))) = false := rfl
      refine seq_Q (d := .tuple [.str "parts", .int 2, deep3 c (markF (i : Int) x (ppart p r))]) ?_ (.inr (.inr (.inr ⟨_, rfl, h0, h1, pf⟩)))
      simp [q_isNot, nn, ut, deep3]
end
end Tm

namespace Tm
open PySem PySem.Spec PyProof.Rows L2
/-! ### how the laws look whether a crate fits in another one -/
/-! ### what the roads do to a filling -/
theorem way_same {ws us : List Int} {v w : Wy} (hv : WayOk ws us v) (hw : WayOk ws us w) (h : ∀ (i : Nat) x, ws[i]? = some x → stepW v ((i : Int), iota x) = stepW w ((i : Int), iota x)) : v = w := by
  refine List.ext_getElem? fun i => ?_
  cases e : ws[i]? with
  | none =>
    have hi := List.getElem?_eq_none_iff.mp e
    rw [List.getElem?_eq_none (by rw [hv.1]; exact hi), List.getElem?_eq_none (by rw [hw.1]; exact hi)]
  | some x => rw [then_idle_get hv e, then_idle_get hw e, h i x e]
theorem plain_fi {ws : List Int} {i : Nat} {x : Int} (hw : ∀ x ∈ ws, 0 ≤ x) (h : ws[i]? = some x) : FillOk x ws ((i : Int), iota x) := by
  have hi := (List.getElem?_eq_some_iff.mp h).1
  have x0 := hw x (List.mem_of_getElem? h)
  refine ⟨by show (0 : Int) ≤ (i : Int); omega, by show (i : Int) < _; omega, ?_, fun y hy => iota_below _ y hy⟩
  show ws[((i : Nat) : Int).toNat]? = some (((iota x).length : Nat) : Int)
  rw [Int.toNat_natCast, h, iota_len, Int.toNat_of_nonneg x0]
theorem actI_idle {us ws : List Int} {x : Int} {D : Int × List (Int × List Int)} (h : DeepOk us ws x D) : actI (idleW ws) D = D := by
  refine Prod.ext rfl ?_
  show D.2.map (stepW (idleW ws)) = D.2
  conv => rhs; rw [← List.map_id D.2]
  exact List.map_congr_left fun p hp => step_idle (h.2 p hp)
theorem actO_idle {us ws : List Int} {x : Int} {D : Int × List (Int × List Int)} (h : DeepOk us ws x D) : actO (idleW us) D = D := by
  obtain ⟨h0, h1, h2, h3⟩ := h.1
  have h2 : us[D.1.toNat]? = some (((D.2.map Prod.fst).length : Nat) : Int) := h2
  rw [List.length_map] at h2
  have g := idle_at h2
  have h0 : 0 ≤ D.1 := h0
  rw [actO_some g, iota_pickP]
  refine Prod.ext ?_ rfl
  show ((D.1.toNat : Nat) : Int) = D.1
  omega
theorem fnum_one1 (n t : Int) : fnum n [1] (0, [t]) = t := by
  show cnt n ([] : List Int) + (t * n ^ 0 + 0) = t
  rw [Int.pow_zero, Int.mul_one]
  show (0 : Int) + _ = _
  omega
theorem dig_zero (n : Int) {α : Type} : ∀ xs : List α, dig n (xs.map fun _ => (0 : Int)) = 0
  | [] => rfl
  | _ :: xs => by
    show 0 * _ + dig n (xs.map fun _ => (0 : Int)) = 0
    rw [dig_zero n xs, Int.zero_mul]
    rfl
theorem fnum_zeros {ws : List Int} {s : Int} (s0 : 0 ≤ s) (s1 : s ≤ (ws.length : Int)) {α : Type} (xs : List α) : fnum (1 : Int) ws (s, xs.map fun _ => (0 : Int)) = s := by
  show cnt 1 (ws.take s.toNat) + dig 1 _ = s
  rw [dig_zero, one_cnt, List.length_take]
  omega
section
variable {c : List Int} {one flat : Wy}
/-- the one thing -/
def oneP (one : Wy) : Int × List Int := one.getD 0 (0, [])
theorem KeepOk.hone (k : KeepOk c one flat) : one = [oneP one] ∧ FillOk 1 c (oneP one) := by
  have h := k.o
  obtain ⟨h1, h2⟩ := h
  match one, h1 with
  | [p], _ => exact ⟨rfl, h2 0 p 1 rfl rfl⟩
theorem KeepOk.step0 (k : KeepOk c one flat) {x : Int} {p : Int × List Int} (hp : FillOk x c p) : stepW (road0 c one flat) p = flatF c flat ((oneP one).1, (oneP one).2.map fun _ => p) := by
  obtain ⟨e1, f1⟩ := k.hone
  have D : DeepOk [1] c x (0, [p]) := ⟨⟨Int.le_refl 0, (by show (0 : Int) < 1; decide), rfl, fun y hy => by rw [List.mem_singleton.mp hy]; exact ⟨hp.1, hp.2.1⟩⟩, fun q hq => by rw [List.mem_singleton.mp hq]; exact hp⟩
  have pk : packI [1] c (0, [p]) = p := by
    show (fnum (c.length : Int) [1] (0, [p.1]), [p].flatMap fun q => q.2) = p
    rw [fnum_one1]
    simp
  have hp' : FillOk x (putC [1] c) p := by rw [putC_oneL]; exact hp
  have up := unpack_pack small_one D
  rw [pk] at up
  have wp := put_ok small_one k.s k.s k.o k.idle
  have sp := step_put (us := [1]) (ws := c) (vs := c) (xs := c) small_one k.s k.o k.idle hp'
  unfold road0
  rw [← step_step wp k.f hp', sp, up]
  have a1 : actO one (0, [p]) = ((oneP one).1, (oneP one).2.map fun _ => p) := by
    have g : one[(0 : Int).toNat]? = some (oneP one) := by rw [e1]; rfl
    rw [actO_some (D := (0, [p])) g]
    refine Prod.ext rfl (List.map_congr_left fun y hy => ?_)
    have := f1.2.2.2 y hy
    have y0 : y = 0 := by omega
    rw [y0]
    rfl
  rw [a1]
  have D2 := actO_ok k.o D
  rw [a1] at D2
  rw [actI_idle D2]
  rfl
/-- one thing in place of each -/
def oneT (one : Wy) (y : Int) : Int × List Int := ((oneP one).1, (oneP one).2.map fun _ => y)
theorem KeepOk.step1 (k : KeepOk c one flat) {x : Int} {p : Int × List Int} (hp : FillOk x c p) : stepW (road1 c one flat) p = flatF c flat (p.1, p.2.map (Tm.oneT one)) := by
  obtain ⟨e1, f1⟩ := k.hone
  have D : DeepOk c [1] x (p.1, p.2.map fun y => ((0 : Int), [y])) := by
    refine ⟨⟨hp.1, hp.2.1, ?_, fun y hy => ?_⟩, fun q hq => ?_⟩
    · show c[p.1.toNat]? = some _
      rw [hp.2.2.1, List.length_map, List.length_map]
    · obtain ⟨q, hq, rfl⟩ := List.mem_map.mp hy
      obtain ⟨z, _, rfl⟩ := List.mem_map.mp hq
      exact ⟨Int.le_refl 0, by show (0 : Int) < 1; decide⟩
    · obtain ⟨z, hz, rfl⟩ := List.mem_map.mp hq
      exact ⟨Int.le_refl 0, by show (0 : Int) < 1; decide, rfl, fun y hy => by rw [List.mem_singleton.mp hy]; exact hp.2.2.2 z hz⟩
  have pk : packI c [1] (p.1, p.2.map fun y => ((0 : Int), [y])) = p := by
    show (fnum ((1 : Nat) : Int) c (p.1, (p.2.map fun y => ((0 : Int), [y])).map Prod.fst), (p.2.map fun y => ((0 : Int), [y])).flatMap fun q => q.2) = p
    rw [List.map_map]
    have e : fnum ((1 : Nat) : Int) c (p.1, p.2.map (Prod.fst ∘ fun y => ((0 : Int), [y]))) = p.1 := fnum_zeros hp.1 (Int.le_of_lt hp.2.1) p.2
    rw [e]
    refine Prod.ext rfl ?_
    show (p.2.map fun y => ((0 : Int), [y])).flatMap (fun q => q.2) = p.2
    rw [List.flatMap_map]
    induction p.2 with
    | nil => rfl
    | cons a l ih => rw [List.flatMap_cons, ih]; rfl
  have hp' : FillOk x (putC c [1]) p := by rw [putC_oneR k.nn]; exact hp
  have up := unpack_pack k.s D
  rw [pk] at up
  have wp := put_ok k.s small_one k.s k.idle k.o
  have sp := step_put (us := c) (ws := [1]) (vs := c) (xs := c) k.s small_one k.idle k.o hp'
  unfold road1
  rw [← step_step wp k.f hp', sp, up, actO_idle D]
  have a1 : actI one (p.1, p.2.map fun y => ((0 : Int), [y])) = (p.1, p.2.map (Tm.oneT one)) := by
    refine Prod.ext rfl ?_
    show (p.2.map fun y => ((0 : Int), [y])).map (stepW one) = _
    rw [List.map_map]
    refine List.map_congr_left fun y hy => ?_
    have g : one[(0 : Int).toNat]? = some (oneP one) := by rw [e1]; rfl
    show stepW one (0, [y]) = _
    rw [step_some (p := (0, [y])) g]
    refine Prod.ext rfl (List.map_congr_left fun z hz => ?_)
    have := f1.2.2.2 z hz
    have z0 : z = 0 := by omega
    rw [z0]
    rfl
  rw [a1]
  rfl
/-- three layers -/
def layB (c : List Int) (p : Int × List Int) : Int × List (Int × List Int) := unpackI c (putC c c) p
theorem Keep3.lay (k : Keep3 c one flat) {x : Int} {p : Int × List Int} (hp : FillOk x (putC c (putC c c)) p) : DeepOk c (putC c c) x (layB c p) ∧ packI c (putC c c) (layB c p) = p := by
  obtain ⟨q, _, _, _, _, h1, h2⟩ := unpack_ok k.s k.toKeepOk.s2 hp
  exact ⟨h1, h2⟩
theorem Keep3.stepB (k : Keep3 c one flat) {x : Int} {p : Int × List Int} (hp : FillOk x (putC c (putC c c)) p) : stepW (roadB c flat) p = flatF c flat ((layB c p).1, (layB c p).2.map (stepW flat)) := by
  have wp := put_ok (us := c) (vs := c) (ws := putC c c) (xs := c) k.s k.toKeepOk.s2 k.s k.toKeepOk.idle k.f
  have sp := step_put (us := c) (ws := putC c c) (vs := c) (xs := c) k.s k.toKeepOk.s2 k.toKeepOk.idle k.f hp
  obtain ⟨D, _⟩ := k.lay hp
  unfold roadB
  rw [← step_step wp k.f hp, sp]
  show stepW flat (packI c c (actI flat (actO (idleW c) (layB c p)))) = _
  rw [actO_idle D]
  rfl
theorem Keep3.stepA (k : Keep3 c one flat) {x : Int} {p : Int × List Int} (hp : FillOk x (putC c (putC c c)) p) : stepW (roadA c flat) p = flatF c flat (actO flat (join3 c c c (layB c p))) ∧ DeepOk c c x (actO flat (join3 c c c (layB c p))) := by
  obtain ⟨D, _⟩ := k.lay hp
  have J := join3_ok k.s k.s k.s D
  obtain ⟨fr, ur⟩ := reg_fill k.s k.s k.s k.toKeepOk.s2 k.toKeepOk.s2 hp
  have wp := put_ok (us := putC c c) (vs := c) (ws := c) (xs := c) k.toKeepOk.s2 k.s k.s k.f k.toKeepOk.idle
  have sp := step_put (us := putC c c) (ws := c) (vs := c) (xs := c) k.toKeepOk.s2 k.s k.f k.toKeepOk.idle fr
  have J2 := actO_ok k.f J
  refine ⟨?_, J2⟩
  unfold roadA
  rw [← step_step (then_ok k.reg wp) k.f hp, ← step_step k.reg wp hp, step_reg hp, sp, ur]
  show stepW flat (packI c c (actI (idleW c) (actO flat (join3 c c c (layB c p))))) = _
  rw [actI_idle J2]
  rfl
/-- which rules hold -/
theorem KeepOk.rule0 (k : KeepOk c one flat) : road0 c one flat = idleW c ↔ ∀ (i : Nat) x, c[i]? = some x → flatF c flat ((oneP one).1, (oneP one).2.map fun _ => ((i : Int), iota x)) = ((i : Int), iota x) := by
  constructor
  · intro h i x hx
    have fp := plain_fi k.nn hx
    rw [← k.step0 fp, h, step_idle fp]
  · intro h
    refine way_same k.r0 k.idle fun i x hx => ?_
    have fp := plain_fi k.nn hx
    rw [k.step0 fp, h i x hx, step_idle fp]
theorem KeepOk.rule1 (k : KeepOk c one flat) : road1 c one flat = idleW c ↔ ∀ (i : Nat) x, c[i]? = some x → flatF c flat ((i : Int), (iota x).map (Tm.oneT one)) = ((i : Int), iota x) := by
  constructor
  · intro h i x hx
    have fp := plain_fi k.nn hx
    rw [← k.step1 fp, h, step_idle fp]
  · intro h
    refine way_same k.r1 k.idle fun i x hx => ?_
    have fp := plain_fi k.nn hx
    rw [k.step1 fp, h i x hx, step_idle fp]
theorem Keep3.rule2 (k : Keep3 c one flat) (h : ∀ x p, FillOk x (putC c (putC c c)) p → flatF c flat (actO flat (join3 c c c (layB c p))) = flatF c flat ((layB c p).1, (layB c p).2.map (stepW flat))) : roadA c flat = roadB c flat := by
  refine way_same k.rA k.rB fun i x hx => ?_
  have fp := plain_fi (fun y hy => (k.s3 y hy).1) hx
  rw [(k.stepA fp).1, k.stepB fp, h x _ fp]
theorem Keep3.rule2' (k : Keep3 c one flat) (h : roadA c flat = roadB c flat) {x : Int} {p : Int × List Int} (hp : FillOk x (putC c (putC c c)) p) : flatF c flat (actO flat (join3 c c c (layB c p))) = flatF c flat ((layB c p).1, (layB c p).2.map (stepW flat)) := by
  rw [← (k.stepA hp).1, ← k.stepB hp, h]
end
/-! ### marks and lost ones -/
def tab (T : List (List Int)) (a b : Int) : Int := pick (T.getD a.toNat []) b
def markC (l m : Nat) : List Int := List.replicate l 0 ++ List.replicate m 1
def mkM (l : Int) (T A : List (List Int)) (q : Int × List Int) : Int × List Int := if q.1 < l then (q.1, []) else if pick q.2 0 < l then (tab A (q.1 - l) (pick q.2 0), []) else (l + tab T (q.1 - l) (pick q.2 0 - l), [0])
def markF' (l m : Nat) (T A : List (List Int)) : Wy := (fills (l + m) (markC l m) (l + m)).map (mkM l T A)
structure TabOk (l m : Nat) (T A : List (List Int)) : Prop where
  l2 : l ≤ 2
  m1 : 1 ≤ m
  m3 : m ≤ 3
  t : ∀ a b : Int, 0 ≤ a → a < m → 0 ≤ b → b < m → 0 ≤ tab T a b ∧ tab T a b < m
  a : ∀ a b : Int, 0 ≤ a → a < m → 0 ≤ b → b < l → 0 ≤ tab A a b ∧ tab A a b < l
theorem markC_len (l m : Nat) : (markC l m).length = l + m := by
  unfold markC
  rw [List.length_append, List.length_replicate, List.length_replicate]
theorem markC_low {l m : Nat} {t : Int} (t0 : 0 ≤ t) (t1 : t < l) : (markC l m)[t.toNat]? = some 0 := by
  unfold markC
  rw [List.getElem?_append_left (by rw [List.length_replicate]; omega), List.getElem?_replicate, if_pos (by omega)]
theorem markC_high {l m : Nat} {t : Int} (t0 : (l : Int) ≤ t) (t1 : t < l + m) : (markC l m)[t.toNat]? = some 1 := by
  unfold markC
  rw [List.getElem?_append_right (by rw [List.length_replicate]; omega), List.length_replicate, List.getElem?_replicate, if_pos (by omega)]
theorem markC_small (l m : Nat) : Small (markC l m) := fun x hx => by
  unfold markC at hx
  rcases List.mem_append.mp hx with h | h
  · rw [(List.mem_replicate.mp h).2]; omega
  · rw [(List.mem_replicate.mp h).2]; omega
theorem low_ok {l m : Nat} {n t : Int} (t0 : 0 ≤ t) (t1 : t < l) : FillOk n (markC l m) (t, []) := ⟨t0, by rw [markC_len]; show t < _; omega, markC_low t0 t1, fun y hy => by cases hy⟩
theorem high_ok {l m : Nat} {n t y : Int} (t0 : (l : Int) ≤ t) (t1 : t < l + m) (hy : 0 ≤ y ∧ y < n) : FillOk n (markC l m) (t, [y]) := ⟨by show 0 ≤ t; omega, by rw [markC_len]; show t < _; omega, markC_high t0 t1, fun z hz => by rw [List.mem_singleton.mp hz]; exact hy⟩
/-- a filling has no thing or one -/
theorem mark_cases {l m : Nat} {n : Int} {q : Int × List Int} (h : FillOk n (markC l m) q) : (q.2 = [] ∧ 0 ≤ q.1 ∧ q.1 < l) ∨ ∃ y, q.2 = [y] ∧ (l : Int) ≤ q.1 ∧ q.1 < l + m ∧ 0 ≤ y ∧ y < n := by
  obtain ⟨h0, h1, h2, h3⟩ := h
  rw [markC_len] at h1
  by_cases hl : q.1 < l
  · rw [markC_low h0 hl] at h2
    have : q.2.length = 0 := by have := Option.some.inj h2; omega
    exact .inl ⟨List.length_eq_zero_iff.mp this, h0, hl⟩
  · rw [markC_high (by omega) (by omega)] at h2
    have : q.2.length = 1 := by have := Option.some.inj h2; omega
    obtain ⟨y, hy⟩ := List.length_eq_one_iff.mp this
    have := h3 y (by rw [hy]; exact List.mem_singleton.mpr rfl)
    exact .inr ⟨y, hy, by omega, by omega, this⟩
def markB (l m : Nat) : Bool := decide (cnt ((markC l m).length : Int) (markC l m) ≤ 60) && crateD (cr (putC (markC l m) (markC l m))) && decide (cnt ((putC (markC l m) (markC l m)).length : Int) (markC l m) ≤ 60) && crateD (cr (putC (markC l m) (putC (markC l m) (markC l m))))
theorem mark_bounds : ([0, 1, 2].all fun l => [1, 2, 3].all fun m => markB l m) = true := by decide +kernel
section
variable {l m : Nat} {T A : List (List Int)} {u : Int}
theorem TabOk.b (h : TabOk l m T A) : PutOk (markC l m) (markC l m) ∧ PutOk (markC l m) (putC (markC l m) (markC l m)) := by
  have q := mark_bounds
  rw [List.all_eq_true] at q
  have q := q l (by have := h.l2; simp; omega)
  rw [List.all_eq_true] at q
  have q := q m (by have := h.m1; have := h.m3; simp; omega)
  unfold markB at q
  simp only [Bool.and_eq_true, decide_eq_true_eq] at q
  exact ⟨⟨q.1.1.1, q.1.1.2⟩, ⟨q.1.2, q.2⟩⟩
theorem mk_low {q : Int × List Int} (h : q.1 < l) : mkM l T A q = (q.1, []) := if_pos h
theorem mk_lost {a j : Int} (ha : 0 ≤ a) (hj : j < l) : mkM l T A (l + a, [j]) = (tab A a j, []) := by
  unfold mkM
  have e : pick [j] 0 = j := rfl
  have e2 : (l : Int) + a - l = a := by omega
  show (if (l : Int) + a < l then _ else if pick [j] 0 < l then (tab A ((l : Int) + a - l) (pick [j] 0), []) else _) = _
  rw [if_neg (by omega), e, if_pos hj, e2]
theorem mk_mark {a b : Int} (ha : 0 ≤ a) (hb : 0 ≤ b) : mkM l T A (l + a, [l + b]) = (l + tab T a b, [0]) := by
  unfold mkM
  have e : pick [(l : Int) + b] 0 = l + b := rfl
  have e2 : (l : Int) + a - l = a := by omega
  have e3 : (l : Int) + b - l = b := by omega
  show (if (l : Int) + a < l then _ else if pick [(l : Int) + b] 0 < l then _ else ((l : Int) + tab T ((l : Int) + a - l) (pick [(l : Int) + b] 0 - l), [0])) = _
  rw [if_neg (by omega), e, if_neg (by omega), e2, e3]
theorem rowW_high {l m : Nat} {j : Int} (j0 : (l : Int) ≤ j) (j1 : j < l + m) : rowW (markC l m) [j] = 1 := by
  rw [rowW_cons, rowW_nil]
  have e : pick (markC l m) j = 1 := by
    unfold pick
    rw [List.getD_eq_getElem?_getD, markC_high j0 j1]
    rfl
  rw [e]
  rfl
theorem TabOk.fmk (h : TabOk l m T A) {q : Int × List Int} (hq : FillOk ((l + m : Nat) : Int) (markC l m) q) : FillOk (rowW (markC l m) q.2) (markC l m) (mkM l T A q) := by
  obtain ⟨t, row⟩ := q
  rcases mark_cases hq with ⟨e, h0, h1⟩ | ⟨j, e, h0, h1, h2, h3⟩
  · have e : row = [] := e
    subst e
    rw [mk_low h1]
    exact low_ok h0 h1
  · have e : row = [j] := e
    subst e
    have h0 : (l : Int) ≤ t := h0
    have h1 : t < (l : Int) + m := h1
    have et : t = l + (t - l) := by omega
    rw [et]
    by_cases hj : j < l
    · rw [mk_lost (by omega) hj]
      have := h.a (t - l) j (by omega) (by omega) h2 hj
      exact low_ok this.1 this.2
    · have ej : j = l + (j - l) := by omega
      rw [ej, mk_mark (by omega) (by omega)]
      have := h.t (t - l) (j - l) (by omega) (by omega) (by omega) (by omega)
      refine high_ok (by omega) (by omega) ⟨Int.le_refl 0, ?_⟩
      rw [rowW_high (by omega) (by omega)]
      decide
theorem TabOk.keep (h : TabOk l m T A) (u0 : 0 ≤ u) (u1 : u < m) : Keep3 (markC l m) [(l + u, [0])] (markF' l m T A) := by
  have hb := h.b
  have ml := markC_len l m
  refine ⟨⟨markC_small l m, by rw [ml]; have := h.l2; have := h.m3; omega, hb.1, ⟨rfl, fun i p x e1 e2 => ?_⟩, ⟨?_, fun i p x e1 e2 => ?_⟩⟩, hb.2⟩
  · match i, e1, e2 with
    | 0, e1, e2 =>
      cases e1
      cases e2
      exact high_ok (by omega) (by omega) ⟨Int.le_refl 0, by decide⟩
  · unfold markF'
    rw [List.length_map]
    have := fills_many (l + m) (markC_small l m)
    have := putC_len (markC l m) (markC_small l m)
    rw [ml] at *
    omega
  · unfold markF' at e1
    rw [List.getElem?_map] at e1
    cases hq : (fills (l + m) (markC l m) (l + m))[i]? with
    | none => rw [hq] at e1; cases e1
    | some q =>
      rw [hq] at e1
      cases e1
      have hq' : (fills (markC l m).length (markC l m) (markC l m).length)[i]? = some q := by rw [ml]; exact hq
      obtain ⟨fo, _⟩ := fills_num (markC_small l m) hq'
      rw [putC_get hq'] at e2
      cases e2
      rw [ml] at fo
      exact h.fmk fo
/-- two layers made flat -/
theorem flat_mk {x : Int} {D : Int × List (Int × List Int)} (h : DeepOk (markC l m) (markC l m) x D) : flatF (markC l m) (markF' l m T A) D = ((mkM l T A (D.1, D.2.map Prod.fst)).1, (mkM l T A (D.1, D.2.map Prod.fst)).2.map (pick (D.2.flatMap fun p => p.2))) := by
  have ml := markC_len l m
  have fa := fill_at (markC_small l m) h.1
  unfold flatF
  have g : (markF' l m T A)[(packI (markC l m) (markC l m) D).1.toNat]? = some (mkM l T A (D.1, D.2.map Prod.fst)) := by
    unfold markF'
    rw [List.getElem?_map]
    have e : (fills (l + m) (markC l m) (l + m))[(packI (markC l m) (markC l m) D).1.toNat]? = some (D.1, D.2.map Prod.fst) := by
      rw [← ml]
      exact fa
    rw [e]
    rfl
  rw [step_some g]
  rfl
theorem deep_low {x t : Int} (t0 : 0 ≤ t) (t1 : t < l) : DeepOk (markC l m) (markC l m) x (t, []) := ⟨low_ok t0 t1, fun p hp => by cases hp⟩
theorem deep_high {x a : Int} {p : Int × List Int} (a0 : 0 ≤ a) (a1 : a < m) (hp : FillOk x (markC l m) p) : DeepOk (markC l m) (markC l m) x (l + a, [p]) := ⟨high_ok (by omega) (by omega) ⟨hp.1, hp.2.1⟩, fun q hq => by rw [List.mem_singleton.mp hq]; exact hp⟩
theorem flat_low {t : Int} (t0 : 0 ≤ t) (t1 : t < l) : flatF (markC l m) (markF' l m T A) (t, []) = (t, []) := by
  rw [flat_mk (x := 0) (deep_low t0 t1)]
  show ((mkM l T A (t, [])).1, (mkM l T A (t, [])).2.map _) = _
  rw [mk_low (q := (t, [])) t1]
  rfl
theorem flat_lost {a j : Int} (a0 : 0 ≤ a) (a1 : a < m) (j0 : 0 ≤ j) (j1 : j < l) : flatF (markC l m) (markF' l m T A) (l + a, [(j, [])]) = (tab A a j, []) := by
  rw [flat_mk (x := 0) (deep_high a0 a1 (low_ok j0 j1))]
  show ((mkM l T A (l + a, [j])).1, (mkM l T A (l + a, [j])).2.map _) = _
  rw [mk_lost a0 j1]
  rfl
theorem flat_mark {a b y : Int} (a0 : 0 ≤ a) (a1 : a < m) (b0 : 0 ≤ b) (b1 : b < m) (y0 : 0 ≤ y) : flatF (markC l m) (markF' l m T A) (l + a, [(l + b, [y])]) = (l + tab T a b, [y]) := by
  rw [flat_mk (x := y + 1) (deep_high a0 a1 (high_ok (by omega) (by omega) ⟨y0, by omega⟩))]
  show ((mkM l T A (l + a, [l + b])).1, (mkM l T A (l + a, [l + b])).2.map (pick [y])) = _
  rw [mk_mark a0 b0]
  rfl
def Rule0 (l m : Nat) (T A : List (List Int)) (u : Int) : Prop := (∀ a : Int, 0 ≤ a → a < m → tab T u a = a) ∧ ∀ k : Int, 0 ≤ k → k < l → tab A u k = k
def Rule1 (m : Nat) (T : List (List Int)) (u : Int) : Prop := ∀ a : Int, 0 ≤ a → a < m → tab T a u = a
def Rule2 (l m : Nat) (T A : List (List Int)) : Prop := (∀ a b d : Int, 0 ≤ a → a < m → 0 ≤ b → b < m → 0 ≤ d → d < m → tab T (tab T a b) d = tab T a (tab T b d)) ∧ ∀ a b k : Int, 0 ≤ a → a < m → 0 ≤ b → b < m → 0 ≤ k → k < l → tab A (tab T a b) k = tab A a (tab A b k)
theorem TabOk.r0 (h : TabOk l m T A) (u0 : 0 ≤ u) (u1 : u < m) : road0 (markC l m) [(l + u, [0])] (markF' l m T A) = idleW (markC l m) ↔ Rule0 l m T A u := by
  have k := h.keep u0 u1
  rw [k.toKeepOk.rule0]
  have e1 : (oneP [((l : Int) + u, [0])]).1 = l + u := rfl
  have e2 : ∀ p : Int × List Int, ((oneP [((l : Int) + u, [0])]).2.map fun _ => p) = [p] := fun p => rfl
  simp only [e1, e2]
  constructor
  · intro H
    refine ⟨fun a a0 a1 => ?_, fun k k0 k1 => ?_⟩
    · have g : (markC l m)[l + a.toNat]? = some 1 := by
        have := markC_high (l := l) (m := m) (t := l + a) (by omega) (by omega)
        rwa [show ((l : Int) + a).toNat = l + a.toNat by omega] at this
      have := H (l + a.toNat) 1 g
      have e3 : ((l + a.toNat : Nat) : Int) = l + a := by omega
      have e4 : iota 1 = [0] := rfl
      rw [e3, e4, flat_mark u0 u1 a0 a1 (Int.le_refl 0)] at this
      have := (Prod.mk.inj this).1
      omega
    · have g := markC_low (l := l) (m := m) k0 k1
      have := H k.toNat 0 g
      have e3 : ((k.toNat : Nat) : Int) = k := by omega
      have e4 : iota 0 = [] := rfl
      rw [e3, e4, flat_lost u0 u1 k0 k1] at this
      exact (Prod.mk.inj this).1
  · intro ⟨H1, H2⟩ i x hx
    have fp := plain_fi (fun y hy => (markC_small l m y hy).1) hx
    rcases mark_cases fp with ⟨e, h0, h1⟩ | ⟨y, e, h0, h1, h2, h3⟩
    · have e : iota x = [] := e
      rw [e, flat_lost u0 u1 h0 h1]
      rw [H2 _ h0 h1]
    · have e : iota x = [y] := e
      rw [e]
      have h0 : (l : Int) ≤ (i : Int) := h0
      have h1 : (i : Int) < l + m := h1
      have ei : (i : Int) = l + ((i : Int) - l) := by omega
      rw [ei, flat_mark u0 u1 (by omega) (by omega) h2, H1 _ (by omega) (by omega)]
theorem TabOk.r1 (h : TabOk l m T A) (u0 : 0 ≤ u) (u1 : u < m) : road1 (markC l m) [(l + u, [0])] (markF' l m T A) = idleW (markC l m) ↔ Rule1 m T u := by
  have k := h.keep u0 u1
  rw [k.toKeepOk.rule1]
  have e2 : ∀ y : Int, oneT [((l : Int) + u, [0])] y = (l + u, [y]) := fun p => rfl
  constructor
  · intro H a a0 a1
    have g : (markC l m)[l + a.toNat]? = some 1 := by
      have := markC_high (l := l) (m := m) (t := l + a) (by omega) (by omega)
      rwa [show ((l : Int) + a).toNat = l + a.toNat by omega] at this
    have := H (l + a.toNat) 1 g
    have e3 : ((l + a.toNat : Nat) : Int) = l + a := by omega
    have e4 : iota 1 = [0] := rfl
    have e5 : [(0 : Int)].map (oneT [((l : Int) + u, [0])]) = [((l : Int) + u, [0])] := rfl
    rw [e3, e4, e5, flat_mark a0 a1 u0 u1 (Int.le_refl 0)] at this
    have := (Prod.mk.inj this).1
    omega
  · intro H i x hx
    have fp := plain_fi (fun y hy => (markC_small l m y hy).1) hx
    rcases mark_cases fp with ⟨e, h0, h1⟩ | ⟨y, e, h0, h1, h2, h3⟩
    · have e : iota x = [] := e
      rw [e]
      exact flat_low h0 h1
    · have e : iota x = [y] := e
      rw [e]
      have h0 : (l : Int) ≤ (i : Int) := h0
      have h1 : (i : Int) < l + m := h1
      have ei : (i : Int) = l + ((i : Int) - l) := by omega
      have e5 : [y].map (oneT [((l : Int) + u, [0])]) = [((l : Int) + u, [y])] := rfl
      rw [e5, ei, flat_mark (by omega) (by omega) u0 u1 h2, H _ (by omega) (by omega)]
/-- three layers: what comes of the inner two is told -/
theorem layB_pack (h : TabOk l m T A) {x : Int} {E : Int × List (Int × List Int)} (hE : DeepOk (markC l m) (putC (markC l m) (markC l m)) x E) : layB (markC l m) (packI (markC l m) (putC (markC l m) (markC l m)) E) = E := unpack_pack (markC_small l m) hE
theorem two_sides (h : TabOk l m T A) (u0 : 0 ≤ u) (u1 : u < m) {x a : Int} {G : Int × List (Int × List Int)} (a0 : 0 ≤ a) (a1 : a < m) (hG : DeepOk (markC l m) (markC l m) x G) :
    flatF (markC l m) (markF' l m T A) (actO (markF' l m T A) (join3 (markC l m) (markC l m) (markC l m) (l + a, [packI (markC l m) (markC l m) G]))) = flatF (markC l m) (markF' l m T A) ((mkM l T A (l + a, [G.1])).1, (mkM l T A (l + a, [G.1])).2.map (pickP G.2)) ∧
    flatF (markC l m) (markF' l m T A) (((l : Int) + a), [packI (markC l m) (markC l m) G].map (stepW (markF' l m T A))) = flatF (markC l m) (markF' l m T A) (l + a, [flatF (markC l m) (markF' l m T A) G]) := by
  have up := unpack_pack (markC_small l m) hG
  have ml := markC_len l m
  refine ⟨?_, rfl⟩
  have hf : FillOk ((markC l m).length : Int) (markC l m) (l + a, [G.1]) := high_ok (by omega) (by omega) ⟨hG.1.1, hG.1.2.1⟩
  have fa := fill_at (markC_small l m) hf
  have j1 : join3 (markC l m) (markC l m) (markC l m) (l + a, [packI (markC l m) (markC l m) G]) = (fnum ((markC l m).length : Int) (markC l m) (l + a, [G.1]), G.2) := by
    unfold join3
    show (fnum _ _ (_, [(unpackI (markC l m) (markC l m) (packI (markC l m) (markC l m) G)).1]), (unpackI (markC l m) (markC l m) (packI (markC l m) (markC l m) G)).2 ++ []) = _
    rw [up, List.append_nil]
  rw [j1]
  have g : (markF' l m T A)[(fnum ((markC l m).length : Int) (markC l m) ((l : Int) + a, [G.1])).toNat]? = some (mkM l T A (l + a, [G.1])) := by
    unfold markF'
    rw [List.getElem?_map]
    have e : (fills (l + m) (markC l m) (l + m))[(fnum ((markC l m).length : Int) (markC l m) ((l : Int) + a, [G.1])).toNat]? = some ((l : Int) + a, [G.1]) := by
      rw [ml] at fa ⊢
      exact fa
    rw [e]
    rfl
  rw [actO_some (D := (fnum ((markC l m).length : Int) (markC l m) ((l : Int) + a, [G.1]), G.2)) g]
theorem TabOk.r2 (h : TabOk l m T A) (u0 : 0 ≤ u) (u1 : u < m) : roadA (markC l m) (markF' l m T A) = roadB (markC l m) (markF' l m T A) ↔ Rule2 l m T A := by
  have k := h.keep u0 u1
  have ss := markC_small l m
  have side : ∀ (a x : Int) (G : Int × List (Int × List Int)), 0 ≤ a → a < m → DeepOk (markC l m) (markC l m) x G → roadA (markC l m) (markF' l m T A) = roadB (markC l m) (markF' l m T A) → flatF (markC l m) (markF' l m T A) ((mkM l T A (l + a, [G.1])).1, (mkM l T A (l + a, [G.1])).2.map (pickP G.2)) = flatF (markC l m) (markF' l m T A) (l + a, [flatF (markC l m) (markF' l m T A) G]) := fun a x G a0 a1 hG hr => by
    have fG := pack_ok ss hG
    have dE : DeepOk (markC l m) (putC (markC l m) (markC l m)) x (l + a, [packI (markC l m) (markC l m) G]) := ⟨high_ok (by omega) (by omega) ⟨fG.1, fG.2.1⟩, fun q hq => by rw [List.mem_singleton.mp hq]; exact fG⟩
    have fE := pack_ok ss dE
    have := k.rule2' hr fE
    rw [layB_pack h dE] at this
    obtain ⟨t1, t2⟩ := two_sides h u0 u1 a0 a1 hG
    rw [t1] at this
    have t2' : flatF (markC l m) (markF' l m T A) ((((l : Int) + a), [packI (markC l m) (markC l m) G]).1, (((l : Int) + a), [packI (markC l m) (markC l m) G]).2.map (stepW (markF' l m T A))) = flatF (markC l m) (markF' l m T A) (l + a, [flatF (markC l m) (markF' l m T A) G]) := t2
    rw [t2'] at this
    exact this
  constructor
  · intro hr
    refine ⟨fun a b d a0 a1 b0 b1 d0 d1 => ?_, fun a b d a0 a1 b0 b1 d0 d1 => ?_⟩
    · have := side a 1 (l + b, [(l + d, [0])]) a0 a1 (deep_high b0 b1 (high_ok (by omega) (by omega) ⟨Int.le_refl 0, by decide⟩)) hr
      have tb := h.t a b a0 a1 b0 b1
      have td := h.t b d b0 b1 d0 d1
      rw [flat_mark b0 b1 d0 d1 (Int.le_refl 0), flat_mark a0 a1 td.1 td.2 (Int.le_refl 0)] at this
      have e : ((mkM l T A ((l : Int) + a, [(l : Int) + b])).1, (mkM l T A ((l : Int) + a, [(l : Int) + b])).2.map (pickP [((l : Int) + d, [(0 : Int)])])) = ((l : Int) + tab T a b, [((l : Int) + d, [(0 : Int)])]) := by
        rw [mk_mark a0 b0]
        rfl
      have this : flatF (markC l m) (markF' l m T A) ((mkM l T A ((l : Int) + a, [(l : Int) + b])).1, (mkM l T A ((l : Int) + a, [(l : Int) + b])).2.map (pickP [((l : Int) + d, [(0 : Int)])])) = _ := this
      rw [e, flat_mark tb.1 tb.2 d0 d1 (Int.le_refl 0)] at this
      have := (Prod.mk.inj this).1
      omega
    · have := side a 1 (l + b, [(d, [])]) a0 a1 (deep_high b0 b1 (low_ok d0 d1)) hr
      have tb := h.t a b a0 a1 b0 b1
      have td := h.a b d b0 b1 d0 d1
      rw [flat_lost b0 b1 d0 d1, flat_lost a0 a1 td.1 td.2] at this
      have e : ((mkM l T A ((l : Int) + a, [(l : Int) + b])).1, (mkM l T A ((l : Int) + a, [(l : Int) + b])).2.map (pickP [(d, ([] : List Int))])) = ((l : Int) + tab T a b, [(d, ([] : List Int))]) := by
        rw [mk_mark a0 b0]
        rfl
      have this : flatF (markC l m) (markF' l m T A) ((mkM l T A ((l : Int) + a, [(l : Int) + b])).1, (mkM l T A ((l : Int) + a, [(l : Int) + b])).2.map (pickP [(d, ([] : List Int))])) = _ := this
      rw [e, flat_lost tb.1 tb.2 d0 d1] at this
      exact (Prod.mk.inj this).1
  · intro ⟨H1, H2⟩
    refine k.rule2 fun x p hp => ?_
    obtain ⟨D, _⟩ := k.lay hp
    generalize layB (markC l m) p = E at D
    obtain ⟨s, fs⟩ := E
    rcases mark_cases D.1 with ⟨e, h0, h1⟩ | ⟨y, e, h0, h1, h2, h3⟩
    · have e : fs = [] := List.map_eq_nil_iff.mp e
      subst e
      have h0 : 0 ≤ s := h0
      have h1 : s < (l : Int) := h1
      have fa := fill_at (n := (markC l m).length) ss (low_ok (l := l) (m := m) (n := ((markC l m).length : Int)) h0 h1)
      have g : (markF' l m T A)[(fnum ((markC l m).length : Int) (markC l m) (s, [])).toNat]? = some (s, []) := by
        unfold markF'
        rw [List.getElem?_map]
        have e : (fills (l + m) (markC l m) (l + m))[(fnum ((markC l m).length : Int) (markC l m) (s, [])).toNat]? = some (s, []) := by
          rw [markC_len] at fa ⊢
          exact fa
        rw [e]
        show some (mkM l T A (s, [])) = _
        rw [mk_low h1]
      have j : join3 (markC l m) (markC l m) (markC l m) (s, []) = (fnum ((markC l m).length : Int) (markC l m) (s, []), []) := rfl
      rw [j, actO_some (D := (fnum ((markC l m).length : Int) (markC l m) (s, []), [])) g]
      rfl
    · have hs : ∃ f, fs = [f] := by
        match fs, e with
        | [f], _ => exact ⟨f, rfl⟩
      obtain ⟨f, rfl⟩ := hs
      have h0 : (l : Int) ≤ s := h0
      have h1 : s < (l : Int) + m := h1
      have es : s = l + (s - l) := by omega
      generalize hsa : s - l = a at es
      subst es
      have a0 : 0 ≤ a := by omega
      have a1 : a < m := by omega
      have ff := D.2 f (List.mem_singleton.mpr rfl)
      obtain ⟨_, _, _, _, _, dG, pG⟩ := unpack_ok ss ss ff
      generalize unpackI (markC l m) (markC l m) f = G at dG pG
      rw [← pG]
      obtain ⟨t1, t2⟩ := two_sides h u0 u1 a0 a1 dG
      rw [t1]
      have t2' : flatF (markC l m) (markF' l m T A) ((((l : Int) + a), [packI (markC l m) (markC l m) G]).1, (((l : Int) + a), [packI (markC l m) (markC l m) G]).2.map (stepW (markF' l m T A))) = flatF (markC l m) (markF' l m T A) (l + a, [flatF (markC l m) (markF' l m T A) G]) := t2
      rw [t2']
      obtain ⟨t, gs⟩ := G
      rcases mark_cases dG.1 with ⟨e2, g0, g1⟩ | ⟨y2, e2, g0, g1, g2, g3⟩
      · have e2 : gs = [] := List.map_eq_nil_iff.mp e2
        subst e2
        have g0 : 0 ≤ t := g0
        have g1 : t < (l : Int) := g1
        have ta := h.a a t a0 a1 g0 g1
        have e3 : ((mkM l T A ((l : Int) + a, [t])).1, (mkM l T A ((l : Int) + a, [t])).2.map (pickP ([] : List (Int × List Int)))) = (tab A a t, []) := by
          rw [mk_lost a0 g1]
          rfl
        show flatF _ _ ((mkM l T A ((l : Int) + a, [t])).1, (mkM l T A ((l : Int) + a, [t])).2.map (pickP ([] : List (Int × List Int)))) = _
        rw [e3, flat_low ta.1 ta.2, flat_low g0 g1, flat_lost a0 a1 g0 g1]
      · have hg : ∃ q, gs = [q] := by
          match gs, e2 with
          | [q], _ => exact ⟨q, rfl⟩
        obtain ⟨q, rfl⟩ := hg
        have g0 : (l : Int) ≤ t := g0
        have g1 : t < (l : Int) + m := g1
        have et : t = l + (t - l) := by omega
        generalize htb : t - l = b at et
        subst et
        have b0 : 0 ≤ b := by omega
        have b1 : b < m := by omega
        have tb := h.t a b a0 a1 b0 b1
        have e3 : ((mkM l T A ((l : Int) + a, [(l : Int) + b])).1, (mkM l T A ((l : Int) + a, [(l : Int) + b])).2.map (pickP [q])) = ((l : Int) + tab T a b, [q]) := by
          rw [mk_mark a0 b0]
          rfl
        show flatF _ _ ((mkM l T A ((l : Int) + a, [(l : Int) + b])).1, (mkM l T A ((l : Int) + a, [(l : Int) + b])).2.map (pickP [q])) = _
        rw [e3]
        have fq := dG.2 q (List.mem_singleton.mpr rfl)
        obtain ⟨d, ys⟩ := q
        rcases mark_cases fq with ⟨e4, q0, q1⟩ | ⟨y3, e4, q0, q1, q2, q3⟩
        · have e4 : ys = [] := e4
          subst e4
          have q0 : 0 ≤ d := q0
          have q1 : d < (l : Int) := q1
          have td := h.a b d b0 b1 q0 q1
          rw [flat_lost tb.1 tb.2 q0 q1, flat_lost b0 b1 q0 q1, flat_lost a0 a1 td.1 td.2, H2 a b d a0 a1 b0 b1 q0 q1]
        · have e4 : ys = [y3] := e4
          subst e4
          have q0 : (l : Int) ≤ d := q0
          have q1 : d < (l : Int) + m := q1
          have ed : d = l + (d - l) := by omega
          generalize hd : d - l = e at ed
          subst ed
          have td := h.t b e b0 b1 (by omega) (by omega)
          rw [flat_mark tb.1 tb.2 (by omega) (by omega) q2, flat_mark b0 b1 (by omega) (by omega) q2, flat_mark a0 a1 td.1 td.2 q2, H1 a b e a0 a1 b0 b1 (by omega) (by omega)]
end
/-! ### the laws' tables of marks -/
abbrev lst (r : List Int) : PyData := .list (r.map PyData.int)
abbrev lsts (T : List (List Int)) : PyData := .list (T.map lst)
structure RowsOk (k m b : Nat) (T : List (List Int)) : Prop where
  l : T.length = k
  r : ∀ r ∈ T, r.length = m ∧ ∀ x ∈ r, 0 ≤ x ∧ x < (b : Int)
theorem RowsOk.tab {k m b : Nat} {T : List (List Int)} (h : RowsOk k m b T) {i j : Int} (i0 : 0 ≤ i) (i1 : i < k) (j0 : 0 ≤ j) (j1 : j < m) : 0 ≤ tab T i j ∧ tab T i j < b := by
  have hi : i.toNat < T.length := by rw [h.l]; omega
  obtain ⟨hl, hr⟩ := h.r T[i.toNat] (List.getElem_mem hi)
  unfold Tm.tab
  rw [List.getD_eq_getElem?_getD, List.getElem?_eq_getElem hi]
  exact hr _ (List.mem_of_getElem? (pick_in (r := T[i.toNat]) j0 (by omega)))
def rowT (T : List (List Int)) (i : Int) : List Int := T.getD i.toNat []
theorem RowsOk.row {k m b : Nat} {T : List (List Int)} (h : RowsOk k m b T) {i : Int} (i0 : 0 ≤ i) (i1 : i < k) : ixD (lsts T) (.int i) = .ok (lst (rowT T i)) ∧ (rowT T i).length = m ∧ ∀ x ∈ rowT T i, 0 ≤ x ∧ x < (b : Int) := by
  have hi : i.toNat < T.length := by rw [h.l]; omega
  have e : rowT T i = T[i.toNat] := by
    unfold rowT
    rw [List.getD_eq_getElem?_getD, List.getElem?_eq_getElem hi]
    rfl
  refine ⟨q_ixL (at_int i0 ?_), ?_⟩
  · rw [List.getElem?_map, List.getElem?_eq_getElem hi, e]
    rfl
  · rw [e]
    exact h.r _ (List.getElem_mem hi)
theorem ix_lst {r : List Int} {j : Int} (j0 : 0 ≤ j) (j1 : j < (r.length : Int)) : ixD (lst r) (.int j) = .ok (.int (pick r j)) := q_ixL (at_int j0 (by
  rw [List.getElem?_map, pick_in j0 j1]
  rfl))
theorem RowsOk.at {k m b : Nat} {T : List (List Int)} (h : RowsOk k m b T) {i j : Int} (i0 : 0 ≤ i) (i1 : i < k) (j0 : 0 ≤ j) (j1 : j < m) : ixD (lst (rowT T i)) (.int j) = .ok (.int (Tm.tab T i j)) := ix_lst j0 (by rw [(h.row i0 i1).2.1]; exact j1)
/-! ### the keeper of marks -/
end Tm

namespace Tm
open PySem PySem.Spec PyProof.Rows L2
/-! ### an order drawn -/
/-! ### the same trays in another order fit as well -/
theorem PutOk.same {a b a' b' : List Int} (h : PutOk a b) (ha : Small a') (hn : cnt (b'.length : Int) a' = cnt (b.length : Int) a) (hs : ∀ x ∈ putC a' b', x ∈ putC a b) : PutOk a' b' := by
  have n := h.n
  refine ⟨by rw [hn]; exact n, crate_mk (fun x hx => (crate_small h.c).1 x (hs x hx)) ?_⟩
  have := putC_len b' ha
  omega
/-- a crate that has room for three layers -/
structure Room (c : List Int) : Prop where
  s : Small c
  l : c.length ≤ 60
  p2 : PutOk c c
  p3 : PutOk c (putC c c)
theorem Keep3.room {c : List Int} {one flat : Wy} (k : Keep3 c one flat) : Room c := ⟨k.s, k.l, k.p2, k.p3⟩
theorem Room.keep {c : List Int} {one flat : Wy} (k : Room c) (o : WayOk [1] c one) (f : WayOk (putC c c) c flat) : Keep3 c one flat := { s := k.s, l := k.l, p2 := k.p2, o := o, f := f, p3 := k.p3 }
/-! ### the filling that a filling of fillings is laid flat to -/
/-! ### a keeper moved -/
/-- an order of the trays, and for each tray an order of its wells -/
structure MvOk (c σ : List Int) (τ : List (List Int)) : Prop where
  p : σ.Perm (iota (c.length : Int))
  l : τ.length = c.length
  t : ∀ (i : Nat) r m, τ[i]? = some r → c[i]? = some m → r.Perm (iota m)
section
variable {c σ : List Int} {τ : List (List Int)}
abbrev newC (c σ : List Int) : List Int := σ.map (pick c)
theorem MvOk.sl (h : MvOk c σ τ) : σ.length = c.length := by rw [h.p.length_eq, iota_len, Int.toNat_natCast]
theorem MvOk.at (h : MvOk c σ τ) {t : Int} (t0 : 0 ≤ t) (t1 : t < (c.length : Int)) : ∃ s, ixD (lst σ) (.int t) = .ok (.int s) ∧ σ[t.toNat]? = some s ∧ 0 ≤ s ∧ s < (c.length : Int) ∧ (newC c σ)[t.toNat]? = some (pick c s) := by
  have sl := h.sl
  have g := pick_in (r := σ) (y := t) t0 (by omega)
  have m := h.p.mem_iff.mp (List.mem_of_getElem? g)
  have b := iota_below _ _ m
  exact ⟨pick σ t, ix_lst t0 (by omega), g, b.1, b.2, by rw [List.getElem?_map, g]; rfl⟩
theorem MvOk.turn (h : MvOk c σ τ) {s : Int} (s0 : 0 ≤ s) (s1 : s < (c.length : Int)) : ∃ r, ixD (lsts τ) (.int s) = .ok (lst r) ∧ r.Perm (iota (pick c s)) := by
  have hl := h.l
  have g := List.getElem?_eq_getElem (l := τ) (i := s.toNat) (by omega)
  refine ⟨τ[s.toNat], q_ixL (at_int s0 ?_), h.t _ _ _ g (pick_in s0 s1)⟩
  rw [List.getElem?_map, g]
  rfl
end
end Tm

namespace Tm
open PySem PySem.Spec PyProof.Rows L2
/-! ### a way drawn: where there is none -/
/-! ### five keepers -/
/-! ### a keeper bent -/
section
variable {c : List Int} {one flat : Wy}
theorem KeepOk.pos (k : KeepOk c one flat) : 0 < c.length := by
  obtain ⟨_, f⟩ := k.hone
  have := f.1
  have := f.2.1
  omega
end
/-! ### any keeper -/
/-! ### a keeper drawn -/
section
variable {S : Sx} {w : Bool}
/-! ### texts: methods -/
/-! ### slices and texts with what draws -/
end
/-! ### try: x = f(..) except TrayError as e: o = isinstance(e, (..)); r = [isinstance(e, C), isinstance(e, ValueError), o] -/
end Tm

namespace Tm
open PySem PySem.Spec PyProof.Rows L2 TL
/-! ### texts as data -/
theorem strOk_iff {a : Str} : PyData.strOk a = true ↔ ∀ c ∈ tl a, c < 0x110000 := by
  unfold PyData.strOk
  rw [← Array.all_toList, List.all_eq_true]
  simp
@[simp] theorem q_slStr (z : Str) (lo hi : Option Int) : slD (.str z) lo hi = slS z lo hi := rfl
/-! ### number_in -/
end Tm

namespace Tm
open PySem PySem.Spec PyProof.Rows L2
end Tm

namespace Tm
open PySem PySem.Spec PyProof.Rows L2 TL
/-! ### texts joined and cut: their signs, how long they are -/
/-! ### number_in -/
/-! ### what is a crate, of numbers and None -/
end Tm

namespace Tm
open PySem PySem.Spec PyProof.Rows L2 TL
/-! ### words -/
/-! ### crates as texts -/
end Tm

namespace Tm
open PySem PySem.Spec PyProof.Rows L2 TL
/-! ### how defs with a source are reckoned -/
end Tm

namespace Tm
open PySem PySem.Spec PyProof.Rows L2 TL
/-! ### a crate drawn -/
end Tm

namespace Tm
open PySem PySem.Spec PyProof.Rows L2 TL
/-! ### a way drawn -/
/-! ### two crates, and a way between them -/
/-! ### data without dicts -/
inductive Nd : PyData → Prop
  | none : Nd .none
  | bool (b : Bool) : Nd (.bool b)
  | int (i : Int) : Nd (.int i)
  | str (x : Str) : Nd (.str x)
  | list {ds : List PyData} (h : ∀ d ∈ ds, Nd d) (l : ds.length ≤ 100000) : Nd (.list ds)
  | tuple {ds : List PyData} (h : ∀ d ∈ ds, Nd d) (l : ds.length ≤ 100000) : Nd (.tuple ds)
theorem Nd.nd {d : PyData} (h : Nd d) : ∀ kvs, d ≠ .dict kvs := fun kvs e => by
  cases h <;> cases e
end Tm

namespace Tm
open PySem PySem.Spec PyProof.Rows L2 TL
/-! ### ways as texts -/
end Tm

namespace Tm
open PySem PySem.Spec PyProof.Rows L2 TL
/-! ### ways read -/
end Tm

namespace Tm
open PySem PySem.Spec PyProof.Rows L2 TL
/-! ### texts bent -/
def TxOk (n : Nat) (d : PyData) : Prop := ∃ t : Str, d = .str t ∧ PyData.strOk t = true ∧ t.length ≤ n
theorem TxOk.mono {m n : Nat} {d : PyData} (h : TxOk m d) (l : m ≤ n) : TxOk n d := let ⟨t, e, o, k⟩ := h; ⟨t, e, o, Nat.le_trans k l⟩
end Tm

namespace Tm
open PySem PySem.Spec PyProof.Rows L2 TL
/-! ### dicts with text keys, as data -/
def keyIs (z : Str) : PyData → Bool
  | .str y => decide (y = z)
  | _ => false
def lookM (z : Str) (m : List (PyData × PyData)) : Option PyData := (m.find? fun p => keyIs z p.1).map Prod.snd
def putM (z : Str) (d : PyData) (m : List (PyData × PyData)) : List (PyData × PyData) :=
  if (m.any fun p => keyIs z p.1) = true then m.map (fun p => if keyIs z p.1 = true then (p.1, d) else p) else m ++ [(.str z, d)]
theorem keyIs_k (z : Str) (k : Key) : keyIs z (kStr k) = decide (k = Sum.inr z) := by
  cases k with
  | inl i => exact (decide_eq_false (fun h => by cases h)).symm
  | inr y =>
    show decide (y = z) = _
    by_cases h : y = z
    · rw [decide_eq_true h, decide_eq_true (by rw [h])]
    · rw [decide_eq_false h, decide_eq_false (fun q => h (Sum.inr.inj q))]
section
variable {K : PySem.W.Frag} {N : Addr → Prop} {H : Hp}
theorem DdK.look {z : Str} : ∀ {kvs : List (Key × V)} {m : List (PyData × PyData)}, DdK K N H kvs m → (∀ d, lookM z m = some d → ∃ v, valV kvs (Sum.inr z) = some v ∧ Dd K N H v d) ∧ (lookM z m = none → valV kvs (Sum.inr z) = none)
  | [], [], _ => ⟨fun d h => (by cases h), fun _ => rfl⟩
  | [], p :: r, h => by have := congrArg List.length h.1; simp at this
  | kv :: kvs, [], h => by have := congrArg List.length h.1; simp at this
  | (k, v) :: kvs, (pk, d) :: m, ⟨h1, h2⟩ => by
    simp only [List.map_cons, List.cons.injEq] at h1 h2
    obtain ⟨rfl, h1⟩ := h1
    cases h2 with
    | cons hv h2 =>
    obtain ⟨i1, i2⟩ := DdK.look (z := z) ⟨h1, h2⟩
    unfold lookM valV at *
    rw [List.find?_cons, List.find?_cons, keyIs_k]
    by_cases hk : k = Sum.inr z
    · simp only [hk, decide_true, Option.map_some, Option.some.injEq]
      refine ⟨fun d' e => ?_, fun e => (by cases e)⟩
      subst e
      exact ⟨v, rfl, hv⟩
    · simp only [decide_eq_false hk]
      exact ⟨i1, i2⟩
theorem DdK.any {z : Str} : ∀ {kvs : List (Key × V)} {m : List (PyData × PyData)}, m.map Prod.fst = kvs.map (fun p => kStr p.1) → (m.any fun p => keyIs z p.1) = kvs.any fun kv => decide (kv.1 = Sum.inr z)
  | [], [], _ => rfl
  | [], p :: r, h => by cases h
  | kv :: kvs, [], h => by cases h
  | (k, v) :: kvs, (pk, d) :: m, h => by
    simp only [List.map_cons, List.cons.injEq] at h
    obtain ⟨rfl, h1⟩ := h
    rw [List.any_cons, List.any_cons, keyIs_k, DdK.any h1]
theorem DdK.put1 {z : Str} {v : V} {d : PyData} (hv : Dd K N H v d) : ∀ {kvs : List (Key × V)} {m : List (PyData × PyData)}, DdK K N H kvs m → DdK K N H (kvs.map (fun kv => if kv.1 = Sum.inr z then (kv.1, v) else kv)) (m.map (fun p => if keyIs z p.1 = true then (p.1, d) else p))
  | [], [], _ => ⟨rfl, .nil⟩
  | [], p :: r, h => by have := congrArg List.length h.1; simp at this
  | kv :: kvs, [], h => by have := congrArg List.length h.1; simp at this
  | (k, v0) :: kvs, (pk, d0) :: m, ⟨h1, h2⟩ => by
    simp only [List.map_cons, List.cons.injEq] at h1 h2
    obtain ⟨rfl, h1⟩ := h1
    cases h2 with
    | cons hv0 h2 =>
    obtain ⟨i1, i2⟩ := DdK.put1 (z := z) hv ⟨h1, h2⟩
    refine ⟨?_, ?_⟩
    · simp only [List.map_cons, keyIs_k, decide_eq_true_eq]
      rw [i1]
      by_cases hk : k = Sum.inr z
      · rw [if_pos hk, if_pos hk]
      · rw [if_neg hk, if_neg hk]
    · simp only [List.map_cons, keyIs_k, decide_eq_true_eq]
      by_cases hk : k = Sum.inr z
      · rw [if_pos hk, if_pos hk]
        exact .cons hv i2
      · rw [if_neg hk, if_neg hk]
        exact .cons hv0 i2
theorem DdK.put {z : Str} {v : V} {d : PyData} {kvs : List (Key × V)} {m : List (PyData × PyData)} (h : DdK K N H kvs m) (hv : Dd K N H v d) : DdK K N H (putK kvs (Sum.inr z) v) (putM z d m) := by
  unfold putK putM
  rw [DdK.any h.1]
  by_cases q : (kvs.any fun kv => decide (kv.1 = (Sum.inr z : Key))) = true
  · rw [if_pos q, if_pos q]
    exact h.put1 hv
  · rw [if_neg q, if_neg q]
    refine ⟨?_, ?_⟩
    · rw [List.map_append, List.map_append, h.1]
      rfl
    · rw [List.map_append, List.map_append]
      exact h.2.app (.one hv)
/-! ### what a desk keeps, as it stays -/
end
section
variable {S : Sx} {w : Bool}
/-! ### a dict of the module: texts and data -/
inductive Ents (K : PySem.W.Frag) : List DictEntry → List (Str × PyData) → Prop
  | nil : Ents K [] []
  | cons {e : DictEntry} {es : List DictEntry} {z : Str} {d : PyData} {r : List (Str × PyData)} : (∃ t, e.key = .str z t) → (∃ v, RelV v e.val ∧ ∀ N H, Dd K N H v d) → Ents K es r → Ents K (e :: es) ((z, d) :: r)
structure GlD (G : Gx) (x : Str) (tab : List (Str × PyData)) : Prop where
  h : ∃ (d : Addr) (es : Array DictEntry) (n : Nat), G.mg x = some (.ref d) ∧ KDict G.K G.w d es n ∧ Ents G.K es.toList tab
def findT (z : Str) : List (Str × PyData) → Option PyData
  | [] => none
  | p :: r => if p.1 = z then some p.2 else findT z r
theorem Ents.find {K : PySem.W.Frag} {z : Str} : ∀ {es : List DictEntry} {tab : List (Str × PyData)}, Ents K es tab → (∀ d, findT z tab = some d → ∃ e v, es.find? (fun x => x.key.isStr z) = some e ∧ RelV v e.val ∧ ∀ N H, Dd K N H v d) ∧ (findT z tab = none → es.find? (fun x => x.key.isStr z) = none) ∧ (es.any fun x => x.refKey) = false
  | _, _, .nil => ⟨fun d h => (by cases h), fun _ => rfl, rfl⟩
  | _, _, .cons (e := e) (es := es) (z := y) (d := d0) (r := r) ⟨t, hk⟩ ⟨v, hv, hd⟩ h => by
    obtain ⟨i1, i2, i3⟩ := h.find (z := z)
    have hi : e.key.isStr z = decide (y = z) := by
      rw [hk]
      show (y == z) = _
      by_cases q : y = z
      · rw [decide_eq_true q, q]; exact beq_self_eq_true z
      · rw [decide_eq_false q]; exact beq_eq_false_iff_ne.mpr q
    have hr : e.refKey = false := by unfold DictEntry.refKey; rw [hk]
    have hf : findT z ((y, d0) :: r) = if y = z then some d0 else findT z r := rfl
    rw [List.find?_cons, List.any_cons, hr, i3, hi, hf]
    by_cases q : y = z
    · rw [if_pos q, decide_eq_true q]
      refine ⟨fun d e1 => ?_, fun e1 => (by cases e1), rfl⟩
      cases e1
      exact ⟨e, v, rfl, hv, hd⟩
    · rw [if_neg q, decide_eq_false q]
      exact ⟨i1, i2, rfl⟩
/-! ### texts -/
end
end Tm

namespace Tm
open PySem PySem.Spec PyProof.Rows L2 TL
/-! ### defs that may put into what a desk keeps -/
mutual
theorem Dd.over {K : PySem.W.Frag} {N N' : Addr → Prop} {H H' : Hp} {a : Addr} {kvs : List (Key × V)} (e : H a = some (.dK kvs)) (hn : ∀ c, N' c → N c ∨ c = a) (s : SameX a H H') : ∀ {v : V} {d : PyData}, Dd K N H v d → PyData.canLay0 d = true → Dd K N' H' v d
  | _, _, .non, _ => .non
  | _, _, .bl b, _ => .bl b
  | _, _, .int i, _ => .int i
  | _, _, .str x, _ => .str x
  | _, _, .lst q n h, c => .lst (s _ _ (fun z => by rw [z, e] at q; cases q) q) (fun z => (hn _ z).elim n (fun z => by rw [z, e] at q; cases q)) (DdAll.over e hn s h (by rw [← lay_lst]; exact c))
  | _, _, .scr q h, c => by simp [PyData.canLay0] at c
  | _, _, .tup q h, c => .tup (by
      rcases q with (q | ⟨o, q⟩) | q
      · exact .inl (.inl (s _ _ (fun z => by rw [z, e] at q; cases q) q))
      · exact .inl (.inr ⟨o, s _ _ (fun z => by rw [z, e] at q; cases q) q⟩)
      · exact .inr q) (DdAll.over e hn s h (by rw [← lay_tup]; exact c))
  | _, _, .ctup q _ _ h, c => by simp [PyData.canLay0] at c
  | _, _, .kep q _ _ h, c => by simp [PyData.canLay0] at c
  | _, _, .opq, c => by simp [PyData.canLay0] at c
theorem DdAll.over {K : PySem.W.Frag} {N N' : Addr → Prop} {H H' : Hp} {a : Addr} {kvs : List (Key × V)} (e : H a = some (.dK kvs)) (hn : ∀ c, N' c → N c ∨ c = a) (s : SameX a H H') : ∀ {vs : List V} {ds : List PyData}, DdAll K N H vs ds → PyData.canLayAll0 ds = true → DdAll K N' H' vs ds
  | _, _, .nil, _ => .nil
  | _, _, .cons x y, c => .cons (Dd.over e hn s x (lay_cons' c).1) (DdAll.over e hn s y (lay_cons' c).2)
end
def spK (K : PySem.W.Frag) (cls : Str → Addr) (n : Nat) (F : List PyData → Rs (PyData × List (PyData × PyData))) : Sp := fun vs H Q E => ∃ (N : Addr → Prop) (a : Addr) (kvs : List (Key × V)) (m : List (PyData × PyData)) (vs' : List V) (ds : List PyData), vs = .ref a :: vs' ∧ vs.length = n ∧ N a ∧ H a = some (.dK kvs) ∧ DdK K N H kvs m ∧ DdAll K N H vs' ds ∧ Told N H ∧
  match F (kepD a m :: ds) with
  | .bad => False
  | .err c => ∀ H', Same H H' → E (.ref (cls c)) none H'
  | .ok z => ∀ v H' kvs', SameX a H H' → H' a = some (.dK kvs') → DdK K N H' kvs' z.2 → Dd K N H' v z.1 → Q v H'
structure FdK (S : Gx) (k : Nat) (x : Str) (n : Nat) (F : List PyData → Rs (PyData × List (PyData × PyData))) : Prop where
  h : ∃ (f : Addr) (fd : FuncData) (ps : List Str), FnOk S.P S.w S.K S.mg S.base (L2.CX S.P S.w) k f fd ps (spK S.K S.cls n F) ∧ S.mg x = some (.ref f) ∧ PySem.W.keepIn S.K (.ref f) = true ∧ Binds S.K fd ps []
theorem FdK.mono {S : Gx} {j k : Nat} {x : Str} {n : Nat} {F : List PyData → Rs (PyData × List (PyData × PyData))} (h : FdK S j x n F) (l : j ≤ k) : FdK S k x n F := let ⟨f, fd, ps, G, r⟩ := h.h; ⟨f, fd, ps, G.mono l, r⟩
end Tm

namespace Tm
open PySem PySem.Spec PyProof.Rows L2 TL
abbrev KVs := List (PyData × PyData)
abbrev AnsT := List (Str × (List PyData → Rs (PyData × KVs)))
def findF (z : Str) : AnsT → Option (List PyData → Rs (PyData × KVs))
  | [] => none
  | p :: r => if p.1 = z then some p.2 else findF z r
inductive EntsF (G : Gx) (k : Nat) : List DictEntry → AnsT → Prop
  | nil : EntsF G k [] []
  | cons {e : DictEntry} {es : List DictEntry} {z : Str} {F : List PyData → Rs (PyData × KVs)} {r : AnsT} : (∃ t, e.key = .str z t) → (∃ x, FdK G k x 3 F ∧ G.mg x = some e.val) → EntsF G k es r → EntsF G k (e :: es) ((z, F) :: r)
theorem EntsF.find {G : Gx} {k : Nat} {z : Str} {F : List PyData → Rs (PyData × KVs)} : ∀ {es : List DictEntry} {tab : AnsT}, EntsF G k es tab → findF z tab = some F → ∃ e x, es.find? (fun x => x.key.isStr z) = some e ∧ FdK G k x 3 F ∧ G.mg x = some e.val
  | _, _, .nil, h => by cases h
  | _, _, .cons (e := e) (es := es) (z := y) (F := F0) (r := r) ⟨t, hk⟩ ⟨x, hF, hx⟩ h, q => by
    have hi : e.key.isStr z = decide (y = z) := by
      rw [hk]
      show (y == z) = _
      by_cases q : y = z
      · rw [decide_eq_true q, q]; exact beq_self_eq_true z
      · rw [decide_eq_false q]; exact beq_eq_false_iff_ne.mpr q
    have hf : findF z ((y, F0) :: r) = if y = z then some F0 else findF z r := rfl
    rw [hf] at q
    rw [List.find?_cons, hi]
    by_cases c : y = z
    · rw [if_pos c] at q
      cases q
      rw [decide_eq_true c]
      exact ⟨e, x, rfl, hF, hx⟩
    · rw [if_neg c] at q
      rw [decide_eq_false c]
      exact h.find q
structure AnsOk (G : Gx) (k : Nat) (tab : AnsT) : Prop where
  h : ∃ (d : Addr) (es : Array DictEntry) (n : Nat), G.mg "ANSWERS" = some (.ref d) ∧ KDict G.K G.w d es n ∧ EntsF G k es.toList tab
theorem AnsOk.look {G : Gx} {k : Nat} {d : Addr} {es : Array DictEntry} {n : Nat} {tab : AnsT} {z : Str} {F : List PyData → Rs (PyData × KVs)} (D : KDict G.K G.w d es n) (h : EntsF G k es.toList tab) (q : findF z tab = some F) : ∃ f x, KDct G.K G.w d z (.ref f) ∧ FdK G k x 3 F ∧ G.mg x = some (.ref f) := by
  obtain ⟨e, x, h1, hF, h2⟩ := h.find q
  obtain ⟨f, fd, ps, _, hm, _⟩ := hF.h
  rw [h2] at hm
  have hv : e.val = .ref f := Option.some.inj hm
  refine ⟨f, x, ⟨es, n, e.val, D.at_, D.lit, ?_, by rw [hv]; rfl⟩, hF, by rw [h2, hv]⟩
  unfold PySem.W.nsIn
  have q : List.lookup d G.K = some ⟨.type "dict", none, .dict es n, #[]⟩ := D.at_
  rw [q]
  show (match es.toList.find? (fun x => x.key.isStr z) with
    | some e => some (some e.val)
    | none => if (es.toList.any fun x => x.refKey) = true then none else some none) = _
  rw [h1]
/-! ### what the method does -/
def spM (K : PySem.W.Frag) (cls : Str → Addr) (C : Addr) (FS : Addr → Addr → KVs → PyData → Rs (PyData × KVs)) : Sp := fun vs H Q E => ∃ (N : Addr → Prop) (a b dx : Addr) (kvs : List (Key × V)) (m : KVs) (v : V) (row : PyData), vs = [.ref a, v] ∧ N b ∧ a ≠ b ∧ H a = some (.ins C dx [("kept", .ref b)]) ∧ H b = some (.dK kvs) ∧ DdK K N H kvs m ∧ Dd K N H v row ∧ Told N H ∧
  match FS a b m row with
  | .bad => False
  | .err c => ∀ H', Same H H' → E (.ref (cls c)) none H'
  | .ok z => ∀ v H' kvs', SameX b H H' → H' b = some (.dK kvs') → DdK K N H' kvs' z.2 → Dd K N H' v z.1 → Q v H'
end Tm

namespace Tm
open PySem PySem.Spec PyProof.Rows L2 TL
/-! ### desk.say(e) -/
structure SayOk (G : Gx) (k : Nat) (FS : Addr → Addr → KVs → PyData → Rs (PyData × KVs)) : Prop where
  h : ∃ (C f : Addr) (fd : FuncData), PySem.W.nsIn G.K mainGlobals "Desk" = some (some (.ref C)) ∧ Cls G.K C ∧ Meth G.K C "say" f ∧ FnOk G.P G.w G.K G.mg G.base (L2.CX G.P G.w) k f fd ["self", "row"] (spM G.K G.cls C FS) ∧ Binds G.K fd ["self", "row"] []
theorem SayOk.mono {G : Gx} {j k : Nat} {FS : Addr → Addr → KVs → PyData → Rs (PyData × KVs)} (h : SayOk G j FS) (l : j ≤ k) : SayOk G k FS := let ⟨C, f, fd, h1, h2, h3, h4, h5⟩ := h.h; ⟨C, f, fd, h1, h2, h3, h4.mono l, h5⟩
section
variable {S : Sx}
/-! ### desk = Desk(), and what follows -/
end
end Tm

namespace Tm
open PySem PySem.Spec PyProof.Rows L2 TL
end Tm

namespace Tm
open PySem PySem.Spec PyProof.Rows L2 TL
/-! ### dicts of the module, from what is seen of them -/
def flatV : Value → PyData → Bool
  | .int i _, .int j => decide (i = j)
  | .str x _, .str y => decide (x = y)
  | _, _ => false
def flatVs : List Value → List PyData → Bool
  | [], [] => true
  | u :: us, d :: ds => flatV u d && flatVs us ds
  | _, _ => false
def valD (K : PySem.W.Frag) : Value → PyData → Bool
  | .ref a, .tuple ds => (match K.lookup a with
    | some ⟨.type c, _, .seq its _, _⟩ => decide (c = "tuple") && (decide (its.size ≤ 1000) && flatVs its.toList ds)
    | _ => false)
  | u, d => flatV u d
def valDs (K : PySem.W.Frag) : List Value → List PyData → Bool
  | [], [] => true
  | u :: us, d :: ds => valD K u d && valDs K us ds
  | _, _ => false
theorem flatV_ok {K : PySem.W.Frag} {u : Value} {d : PyData} (h : flatV u d = true) : ∃ v, RelV v u ∧ ∀ N H, Dd K N H v d := by
  unfold flatV at h
  split at h
  · rename_i i t j
    obtain rfl := of_decide_eq_true h
    exact ⟨.int i, ⟨t, rfl⟩, fun _ _ => .int i⟩
  · rename_i x t y
    obtain rfl := of_decide_eq_true h
    exact ⟨.str x, ⟨t, rfl⟩, fun _ _ => .str x⟩
  · cases h
theorem flatVs_ok {K : PySem.W.Frag} : ∀ {us : List Value} {ds : List PyData}, flatVs us ds = true → ∃ vs, Vals vs us ∧ ∀ N H, DdAll K N H vs ds
  | [], [], _ => ⟨[], .nil, fun _ _ => .nil⟩
  | u :: us, d :: ds, h => by
    obtain ⟨h1, h2⟩ := (Bool.and_eq_true _ _).mp (show (flatV u d && flatVs us ds) = true from h)
    obtain ⟨v, r, k⟩ := flatV_ok (K := K) h1
    obtain ⟨vs, rs, ks⟩ := flatVs_ok (K := K) h2
    exact ⟨v :: vs, .cons r rs, fun N H => .cons (k N H) (ks N H)⟩
  | [], _ :: _, h => by cases h
  | _ :: _, [], h => by cases h
theorem valD_ok {K : PySem.W.Frag} {u : Value} {d : PyData} (h : valD K u d = true) : ∃ v, RelV v u ∧ ∀ N H, Dd K N H v d := by
  unfold valD at h
  split at h
  · rename_i a ds
    split at h
    · rename_i c od its n sl q
      obtain ⟨h1, h2⟩ := (Bool.and_eq_true _ _).mp h
      obtain ⟨h3, h4⟩ := (Bool.and_eq_true _ _).mp h2
      obtain ⟨vs, rs, ks⟩ := flatVs_ok (K := K) h4
      have e1 : c = "tuple" := of_decide_eq_true h1
      subst e1
      exact ⟨.ref a, rfl, fun N H => .tup (.inr ⟨_, its, n, q, rfl, rfl, Nat.le_trans (of_decide_eq_true h3) (by decide), rs⟩) (ks N H)⟩
    · cases h
  · exact flatV_ok h
theorem Ents.of {K : PySem.W.Frag} {P : Params} : ∀ {es : List DictEntry} {tab : List (Str × PyData)}, es.map He.keyOf = He.keysIn P (tab.map Prod.fst) → valDs K (es.map (·.val)) (tab.map Prod.snd) = true → Ents K es tab
  | [], [], _, _ => .nil
  | e :: es, (z, d) :: tab, h, h' => by
    obtain ⟨h1, h2⟩ := (Bool.and_eq_true _ _).mp (show (valD K e.val d && valDs K (es.map (·.val)) (tab.map Prod.snd)) = true from h')
    have h3 : He.keyOf e :: es.map He.keyOf = some (z, PyData.keyHash P z) :: He.keysIn P (tab.map Prod.fst) := h
    injection h3 with h4 h5
    refine .cons ?_ (valD_ok h1) (Ents.of h5 h2)
    unfold He.keyOf at h4
    split at h4
    · rename_i x t q
      obtain ⟨h6, _⟩ := Prod.mk.inj (Option.some.inj h4)
      exact ⟨t, by rw [q, h6]⟩
    · cases h4
  | [], _ :: _, h, _ => by cases h
  | _ :: _, [], h, _ => by cases h
theorem GlD.of {G : Gx} {x : Str} {d : Addr} {es : Array DictEntry} {n : Nat} {tab : List (Str × PyData)} (hm : G.mg x = some (.ref d)) (hl : G.K.lookup d = some ⟨.type "dict", none, .dict es n, #[]⟩) (hs : (d == sysModules) = false) (hk : es.toList.map He.keyOf = He.keysIn G.w.params (tab.map Prod.fst)) (hv : valDs G.K (es.toList.map (·.val)) (tab.map Prod.snd) = true) : GlD G x tab := ⟨d, es, n, hm, ⟨hl, He.keysLit_of hk, hs⟩, Ents.of hk hv⟩
inductive FsOk (G : Gx) (k : Nat) : List Value → AnsT → Prop
  | nil : FsOk G k [] []
  | cons {u : Value} {us : List Value} {z : Str} {F : List PyData → Rs (PyData × KVs)} {r : AnsT} : (∃ x, FdK G k x 3 F ∧ G.mg x = some u) → FsOk G k us r → FsOk G k (u :: us) ((z, F) :: r)
theorem EntsF.of {G : Gx} {k : Nat} {P : Params} : ∀ {es : List DictEntry} {tab : AnsT}, es.map He.keyOf = He.keysIn P (tab.map Prod.fst) → FsOk G k (es.map (·.val)) tab → EntsF G k es tab
  | [], [], _, _ => .nil
  | e :: es, (z, d) :: tab, h, h' => by
    have h3 : He.keyOf e :: es.map He.keyOf = some (z, PyData.keyHash P z) :: He.keysIn P (tab.map Prod.fst) := h
    injection h3 with h4 h5
    cases h' with
    | cons h1 h2 =>
    refine .cons ?_ h1 (EntsF.of h5 h2)
    unfold He.keyOf at h4
    split at h4
    · rename_i x t q
      obtain ⟨h6, _⟩ := Prod.mk.inj (Option.some.inj h4)
      exact ⟨t, by rw [q, h6]⟩
    · cases h4
  | [], _ :: _, h, _ => by cases h
  | _ :: _, [], h, _ => by cases h
theorem AnsOk.of {G : Gx} {k : Nat} {d : Addr} {es : Array DictEntry} {n : Nat} {tab : AnsT} {vs : List Value} (hm : G.mg "ANSWERS" = some (.ref d)) (hl : G.K.lookup d = some ⟨.type "dict", none, .dict es n, #[]⟩) (hs : (d == sysModules) = false) (hk : es.toList.map He.keyOf = He.keysIn G.w.params (tab.map Prod.fst)) (hv : es.toList.map (·.val) = vs) (hf : FsOk G k vs tab) : AnsOk G k tab := ⟨d, es, n, hm, ⟨hl, He.keysLit_of hk, hs⟩, EntsF.of hk (by rw [hv]; exact hf)⟩
/-! ### len(set(l)) of a list of ints -/
theorem firstMet_ok (ns : List Int) : ∀ i, i ≤ ns.length → (PyProof.Rows.firstMet (ns.getD · 0) i).Nodup ∧ ∀ x, x ∈ PyProof.Rows.firstMet (ns.getD · 0) i ↔ x ∈ ns.take i
  | 0, _ => by
    have e : PyProof.Rows.firstMet (ns.getD · 0) 0 = [] := rfl
    rw [e, List.take_zero]
    exact ⟨List.nodup_nil, fun x => Iff.rfl⟩
  | i + 1, hi => by
    obtain ⟨h1, h2⟩ := firstMet_ok ns i (Nat.le_of_succ_le hi)
    have hlt : i < ns.length := hi
    have e1 : ns.getD i 0 = ns[i] := by
      rw [List.getD_eq_getElem?_getD, List.getElem?_eq_getElem hlt] <;> rfl
    have e2 : ns.take (i + 1) = ns.take i ++ [ns[i]] := by
      rw [List.take_add_one, List.getElem?_eq_getElem hlt] <;> rfl
    rw [PyProof.Rows.firstMet_succ, e1, e2]
    unfold PyProof.Rows.step_dedup
    by_cases c : ((PyProof.Rows.firstMet (ns.getD · 0) i).any (· == ns[i])) = true
    · rw [if_pos c]
      refine ⟨h1, fun x => ?_⟩
      rw [h2, List.mem_append]
      refine ⟨.inl, fun z => z.elim id fun z => ?_⟩
      obtain ⟨y, hy, ey⟩ := List.any_eq_true.mp c
      rw [List.mem_singleton.mp z, ← (eq_of_beq ey : y = ns[i])]
      exact (h2 y).mp hy
    · rw [if_neg c]
      have no : ns[i] ∉ PyProof.Rows.firstMet (ns.getD · 0) i := fun z => c (List.any_eq_true.mpr ⟨_, z, beq_self_eq_true _⟩)
      refine ⟨?_, fun x => ?_⟩
      · rw [List.nodup_append]
        refine ⟨h1, by simp, fun a ha b hb e => ?_⟩
        rw [List.mem_singleton.mp hb] at e
        exact no (e ▸ ha)
      · rw [List.mem_append, List.mem_append, h2]
theorem firstMet_len (ns : List Int) : (PyProof.Rows.firstMet (ns.getD · 0) ns.length).length = (dedI ns).length := by
  obtain ⟨h1, h2⟩ := firstMet_ok ns ns.length (Nat.le_refl _)
  rw [List.take_length] at h2
  have a := sub_len h1 (r := dedI ns) fun x hx => dedI_mem.mpr ((h2 x).mp hx)
  have b := sub_len (dedI_nodup ns) (r := PyProof.Rows.firstMet (ns.getD · 0) ns.length) fun x hx => (h2 x).mpr (dedI_mem.mp hx)
  omega
def tLenSetL (K : PySem.W.Frag) (ta : TE) : TE := fun σ H Q => ta σ H fun x H1 => ∃ (l : Addr) (ns : List Int), x = .ref l ∧ SqL K H1 l (ns.map V.int) ∧ ns.length ≤ 4000 ∧ Q (.int ((dedI ns).length : Nat)) H1
theorem pe_lenSetL {X : Cx} {a : Expr} {ta : TE} {p p2 q pos : Pos} (hg : Gl X "len") (hm : X.mg "len" = none) (hg2 : Gl X "set") (hm2 : X.mg "set" = none) (ha : PE X a ta) (hc : X.calm = true)
    (na : starEach [a] X.env = (false, eval a X.env) :: starEach [] X.env) : PE X (.Call (.Name "len" p) [.Call (.Name "set" p2) [a] [] q] [] pos) (tLenSetL X.K ta) := by
  refine ⟨fun pins s σ H Q I h => ?_⟩
  refine Call_ (ld_blt I hg hm boot_len ?_)
  refine PyProof.Rows.callWith_builtin1 (PyProof.Rows.args_cons ?_ rfl) rfl rfl
  refine Call_ (ld_blt I hg2 hm2 boot_set ?_)
  refine PyProof.Rows.callWith_type1 (PyProof.Rows.args_cons (thn (ha.run pins s σ H _ I h) fun v s1 ⟨x, H1, I1, r1, q1⟩ => PyProof.Rows.args_nil ?_) na) na rfl
  obtain ⟨l, ns, rfl, hq, hl, q1⟩ := q1
  cases r1
  obtain ⟨its, r, pl, hz⟩ := I1.list hq
  have hlen : its.toArray.size = ns.length := by rw [List.size_toArray, ← r.length, List.length_map]
  refine call_set_list (I1.ok.hd hc) pl.isList (by simpa using RZ.intsAre_vals r) (by rw [hlen]; unfold scanBound; omega) fun h' tk hS hk => ?_
  refine PyProof.Rows.args_nil ?_
  rw [hlen] at hS
  obtain ⟨o, es, ep, t, ho, hex, hd, _, _, _, hf, hn⟩ := hS
  have hn2 := hn.trans (firstMet_len ns)
  have dl := dedI_len ns
  have I2 : Inv X pins σ H1 { s1 with heap := h', toks := tk } := I1.kept fun b o e => hk b o (Heap.lt_size e) e
  exact call_len_set ho hex hd hf (by rw [hn2] <;> omega) ⟨.int ((dedI ns).length : Nat), H1, I2.tok _, ⟨_, by rw [hn2]⟩, q1⟩
noncomputable def lenSetLD (d : PyData) : Rs PyData := match d with
  | .list ds => (match asInts ds with
    | some ns => @ite _ (ns.length ≤ 4000) (Classical.propDecidable _) (.ok (.int ((dedI ns).length : Nat))) .bad
    | none => .bad)
  | _ => .bad
section
variable {S : Sx} {w : Bool}
theorem de_lenSetL {a : Expr} {p p2 q pos : Pos} {f : Ev → Rs PyData} (hm : S.mg "len" = none) (hm2 : S.mg "set" = none) (ha : De true S a f) (hg : Gn S "len" := by rfl) (hg2 : Gn S "set" := by rfl) (na : ∀ env, starEach [a] env = (false, eval a env) :: starEach [] env := by intro _; rfl) : De w S (.Call (.Name "len" p) [.Call (.Name "set" p2) [a] [] q] [] pos) (e1 lenSetLD f) := by
  obtain ⟨t, h1, h2⟩ := ha
  refine ⟨fun E => tLenSetL S.K (t E), fun X E c => by rw [← c.K]; exact pe_lenSetL (gl_of c hg) (by rw [c.mg]; exact hm) (gl_of c hg2) (by rw [c.mg]; exact hm2) (h1 X E c) c.calm (na _), fun B H0 N σ H ρ Q E rp k => h2 B H0 N σ H ρ _ E rp ?_⟩
  have k : EE w S N H Q E ((f ρ).bind lenSetLD) := k
  cases e1 : f ρ with
  | bad => rw [e1] at k; exact k
  | err c => rw [e1] at k; exact k
  | ok d =>
    rw [e1, Rs.bind_ok] at k
    intro v H1 s1 k1
    unfold lenSetLD at k
    split at k
    · split at k
      · rename_i ns hn
        by_cases hl : ns.length ≤ 4000
        · rw [if_pos hl] at k
          obtain ⟨b, xs, rfl, e2, kk⟩ := (DW.w k1).lst
          exact ⟨b, ns, rfl, by rw [← dd_ints kk hn]; exact SqL.of e2, hl, k _ H1 s1 (.of (.int _))⟩
        · rw [if_neg hl] at k
          exact k.elim
      · exact k.elim
    · exact k.elim
end
end Tm

namespace Tm
open PySem PySem.Spec PyProof.Rows L2 TL
/-! ### names -/
structure NameS (z : Str) : Prop where
  pos : 1 ≤ z.length
  le : z.length ≤ 8
  low : ∀ c ∈ tl z, 97 ≤ c ∧ c ≤ 122
theorem NameS.ok {z : Str} (h : NameS z) : PyData.strOk z = true := strOk_iff.mpr fun c hc => by
  have := h.low c hc
  omega
/-! ### rows -/
end Tm

namespace Tm
open PySem PySem.Spec PyProof.Rows L2 TL
/-! ### texts of crates and ways, written and read -/
end Tm

namespace Tm
open PySem PySem.Spec PyProof.Rows L2 TL
/-! ### rows put together -/
/-! ### what is kept -/
structure KOk (n : Nat) (m : KVs) : Prop where
  len : m.length ≤ n
  lay : PyData.canLayAll0 (m.map Prod.snd) = true
theorem KOk.nil : KOk 0 [] := ⟨Nat.le_refl _, rfl⟩
theorem lay_all {ds : List PyData} : PyData.canLayAll0 ds = true ↔ ∀ d ∈ ds, PyData.canLay0 d = true := by
  induction ds with
  | nil => exact ⟨fun _ d h => (by cases h), fun _ => rfl⟩
  | cons d r ih =>
    rw [lay_cons, Bool.and_eq_true, ih]
    exact ⟨fun h x hx => (List.mem_cons.mp hx).elim (fun e => by rw [e]; exact h.1) (h.2 x), fun h => ⟨h d List.mem_cons_self, fun x hx => h x (List.mem_cons_of_mem _ hx)⟩⟩
theorem KOk.put {n : Nat} {m : KVs} {z : Str} {v : PyData} (h : KOk n m) (hv : PyData.canLay0 v = true) : KOk (n + 1) (putM z v m) := by
  have hl := lay_all.mp h.lay
  unfold putM
  split
  · refine ⟨by rw [List.length_map]; exact Nat.le_succ_of_le h.len, lay_all.mpr fun d hd => ?_⟩
    rw [List.map_map] at hd
    obtain ⟨p, hp, rfl⟩ := List.mem_map.mp hd
    show PyData.canLay0 (if keyIs z p.1 = true then (p.1, v) else p).2 = true
    split
    · exact hv
    · exact hl _ (List.mem_map.mpr ⟨p, hp, rfl⟩)
  · refine ⟨by rw [List.length_append]; exact Nat.succ_le_succ h.len, lay_all.mpr fun d hd => ?_⟩
    rw [List.map_append] at hd
    rcases List.mem_append.mp hd with hd | hd
    · exact hl d hd
    · rw [List.mem_singleton.mp hd]
      exact hv
theorem ix1 (d e : PyData) (r : List PyData) : ixD (.tuple (d :: e :: r)) (.int 1) = .ok e := q_ixT (at_int (by decide) rfl)
end Tm

namespace Tm
open PySem PySem.Spec PyProof.Rows L2 TL
/-! ### what the laws reckon themselves -/
end Tm

namespace Tm
open PySem PySem.Spec PyProof.Rows L2 TL
/-! ### one to one -/
theorem nodup_get {l : List Int} : l.Nodup ↔ ∀ (m n : Nat) (x y : Int), m < n → l[m]? = some x → l[n]? = some y → x ≠ y := by
  induction l with
  | nil => exact ⟨fun _ m n x y _ h => (by cases h), fun _ => List.nodup_nil⟩
  | cons a r ih =>
    rw [List.nodup_cons, ih]
    constructor
    · rintro ⟨h1, h2⟩ m n x y hmn hx hy
      cases n with
      | zero => omega
      | succ n =>
        have hy : r[n]? = some y := hy
        cases m with
        | zero =>
          cases hx
          exact fun e => h1 (e ▸ List.mem_of_getElem? hy)
        | succ m => exact h2 m n x y (by omega) hx hy
    · intro h
      refine ⟨fun z => ?_, fun m n x y hmn hx hy => h (m + 1) (n + 1) x y (by omega) hx hy⟩
      obtain ⟨n, hn⟩ := List.getElem?_of_mem z
      exact h 0 (n + 1) a a (by omega) rfl hn rfl
theorem nodup_trays {wy : List (Int × List Int)} : (wy.map Prod.fst).Nodup ↔ ∀ (m n : Nat) p q, m < n → n < wy.length → wy[m]? = some p → wy[n]? = some q → p.1 ≠ q.1 := by
  rw [nodup_get]
  constructor
  · intro h m n p q hmn hn hp hq
    exact h m n p.1 q.1 hmn (by rw [List.getElem?_map, hp]; rfl) (by rw [List.getElem?_map, hq]; rfl)
  · intro h m n x y hmn hx hy
    rw [List.getElem?_map] at hx hy
    obtain ⟨p, hp, rfl⟩ := Option.map_eq_some_iff.mp hx
    obtain ⟨q, hq, rfl⟩ := Option.map_eq_some_iff.mp hy
    exact h m n p q hmn (List.getElem?_eq_some_iff.mp hq).1 hp hq
theorem mem_iotaI {x y : Int} : y ∈ iota x ↔ 0 ≤ y ∧ y < x := by
  constructor
  · exact iota_below _ y
  · rintro ⟨h0, h1⟩
    unfold iota
    exact List.mem_map.mpr ⟨y.toNat, List.mem_range.mpr (by omega), by omega⟩
theorem iota_nd (n : Int) : (iota n).Nodup := by
  unfold iota
  refine List.pairwise_map.mpr (List.Pairwise.imp (fun h => ?_) List.nodup_range)
  intro z
  exact h (by omega)
theorem ded_all {l : List Int} {x : Int} (h : ∀ y ∈ l, 0 ≤ y ∧ y < x) (hx : 0 ≤ x) : ¬ ((dedI l).length : Int) < x ↔ ∀ y, 0 ≤ y → y < x → y ∈ l := by
  constructor
  · intro hl y h0 h1
    refine Decidable.byContradiction fun c => ?_
    have s := sub_len (dedI_nodup l) (r := (iota x).erase y) fun z hz => by
      have hz := dedI_mem.mp hz
      exact (List.mem_erase_of_ne (fun e : z = y => c (e ▸ hz))).mpr (mem_iotaI.mpr (h z hz))
    rw [List.length_erase_of_mem (mem_iotaI.mpr ⟨h0, h1⟩), iota_len] at s
    omega
  · intro hall hl
    have s := sub_len (iota_nd x) (r := dedI l) fun z hz => dedI_mem.mpr (hall z (mem_iotaI.mp hz).1 (mem_iotaI.mp hz).2)
    rw [iota_len] at s
    omega
/-! ### tables of up to 512 slots: each slot is met -/
def MOk (m : Nat) : Prop := MaskOk m ∨ m = 511
theorem MOk.le {m : Nat} (h : MOk m) : 7 ≤ m ∧ m ≤ 511 ∧ m % 2 = 1 := by
  rcases h with (e | e | e) | e <;> omega
def orb : Nat → Nat → List Nat
  | 0, _ => []
  | f + 1, i => i :: orb f ((i * 5 + 1) % 512)
theorem lcgI_head (i : Nat) : ∀ k, lcgI 511 ((i * 5 + 1) % 512) k = lcgI 511 i (k + 1)
  | 0 => rfl
  | k + 1 => by
    show (lcgI 511 ((i * 5 + 1) % 512) k * 5 + 1) % (511 + 1) = (lcgI 511 i (k + 1) * 5 + 1) % (511 + 1)
    rw [lcgI_head i k]
theorem orb_mem : ∀ (f i j : Nat), j ∈ orb f i → ∃ k, k < f ∧ lcgI 511 i k = j
  | 0, _, _, h => by cases h
  | f + 1, i, j, h => by
    rcases List.mem_cons.mp h with e | h
    · exact ⟨0, Nat.succ_pos _, e.symm⟩
    · obtain ⟨k, hk, e⟩ := orb_mem f _ j h
      exact ⟨k + 1, Nat.succ_lt_succ hk, by rw [← lcgI_head]; exact e⟩
theorem orb_all : ((List.range 512).all fun j => (orb 512 0).contains j) = true := by decide +kernel
theorem orb_end : lcgI 511 0 512 = 0 := by decide +kernel
theorem orb_from {j : Nat} (hj : j ≤ 511) : ∃ b, b ≤ 511 ∧ lcgI 511 0 b = j := by
  have h1 := List.all_eq_true.mp orb_all j (List.mem_range.mpr (by omega))
  obtain ⟨k, hk, e⟩ := orb_mem 512 0 j (List.contains_iff_mem.mp h1)
  exact ⟨k, by omega, e⟩
theorem lcgI_add (i a : Nat) : ∀ k, lcgI 511 (lcgI 511 i a) k = lcgI 511 i (a + k)
  | 0 => rfl
  | k + 1 => by
    show (lcgI 511 (lcgI 511 i a) k * 5 + 1) % (511 + 1) = (lcgI 511 i (a + k) * 5 + 1) % (511 + 1)
    rw [lcgI_add i a k]
theorem orb_any {i j : Nat} (hi : i ≤ 511) (hj : j ≤ 511) : ∃ k, k ≤ 511 ∧ lcgI 511 i k = j := by
  obtain ⟨a, ha, ea⟩ := orb_from hi
  obtain ⟨b, hb, eb⟩ := orb_from hj
  by_cases c : a ≤ b
  · exact ⟨b - a, by omega, by rw [← ea, lcgI_add, ← eb]; congr 1; omega⟩
  · refine ⟨b + 512 - a, by omega, ?_⟩
    rw [← ea, lcgI_add, ← eb, show a + (b + 512 - a) = 512 + b by omega, ← lcgI_add, orb_end]
theorem cover {m : Nat} (hm : MOk m) (h : Int) {j : Nat} (hj : j ≤ m) : ∃ n, n ≤ m + 12 ∧ runI m (SetTable.bits h) n = j := by
  rcases hm with hm | rfl
  · exact run_meets hm h hj
  · obtain ⟨k, hk, e⟩ := orb_any (runI_le 511 (SetTable.bits h) 12) hj
    exact ⟨12 + k, Nat.le_of_lt_succ (by omega), (runI_tail (bits_lt h) k).trans e⟩
theorem way_to {m : Nat} (hm : MOk m) (h : Int) {j : Nat} (hj : j ≤ m) : ∃ k, k < 10 * SetTable.turns m ∧ way m h k = j := by
  obtain ⟨n, hn, e⟩ := cover hm h hj
  obtain ⟨k, hk, at_k⟩ := run_nth m (SetTable.bits h) n
  have lt : k < 10 * SetTable.turns m := by
    unfold SetTable.turns
    omega
  exact ⟨k, lt, (congrArg SetTable.Probe.j at_k).trans e⟩
/-- a free slot is told, or each run begins at a taken one -/
theorem free_cases (m : Nat) (owner : Array (Option Nat)) : ∀ (f i b : Nat), i ≤ m →
    (∃ j, SetTable.layClean.free m owner f i b = some j ∧ j ≤ m ∧ oAt owner j = none) ∨ ∀ n, n < f → oAt owner (itL m i b n).1 ≠ none
  | 0, _, _, _ => .inr fun _ h => absurd h (Nat.not_lt_zero _)
  | f + 1, i, b, hi => by
    have bd := runEnd_bd hi
    rw [free_succ]
    cases q : (List.range (SetTable.runEnd m i + 1 - i)).find? fun k => (oAt owner (i + k)).isNone with
    | some k =>
      have lt := List.mem_range.mp (List.mem_of_find?_eq_some q)
      have no := List.find?_some q
      exact .inl ⟨i + k, rfl, by omega, Option.isNone_iff_eq_none.mp no⟩
    | none =>
      have taken : oAt owner i ≠ none := fun e => by
        have := List.find?_eq_none.mp q 0 (List.mem_range.mpr (by omega))
        rw [Nat.add_zero, e] at this
        exact this rfl
      rcases free_cases m owner f _ (SetTable.leap m i b).2 (leap_le m i b) with ⟨j, e, r⟩ | r
      · exact .inl ⟨j, e, r⟩
      · refine .inr fun n hn => ?_
        cases n with
        | zero => exact taken
        | succ n => exact r n (by omega)
theorem free_to {m : Nat} (hm : MOk m) (owner : Array (Option Nat)) (h : Int) {j : Nat} (hj : j ≤ m) (hf : oAt owner j = none) :
    ∃ i, SetTable.layClean.free m owner (SetTable.turns m) (SetTable.bits h % (m + 1)) (SetTable.bits h) = some i ∧ i ≤ m ∧ oAt owner i = none := by
  rcases free_cases m owner (SetTable.turns m) (SetTable.bits h % (m + 1)) (SetTable.bits h) (Nat.le_of_lt_succ (Nat.mod_lt _ (Nat.succ_pos _))) with r | r
  · exact r
  · obtain ⟨n, hn, e⟩ := cover hm h hj
    have lt : n < SetTable.turns m := by
      unfold SetTable.turns
      omega
    exact absurd hf (by have := r n lt; rw [itL_run, e] at this; exact this)
/-! ### a table laid anew: who sits where, by the list of the places given so far -/
structure Ow (m : Nat) (ps : List Nat) (owner : Array (Option Nat)) : Prop where
  sz : owner.size = m + 1
  at_ : ∀ j k, j ≤ m → (oAt owner j = some k ↔ ps[k]? = some j)
  bd : ∀ j ∈ ps, j ≤ m
theorem Ow.free {m : Nat} {ps : List Nat} {owner : Array (Option Nat)} (W : Ow m ps owner) {j : Nat} (hj : j ≤ m) : oAt owner j = none ↔ j ∉ ps := by
  constructor
  · intro e z
    obtain ⟨k, hk⟩ := List.getElem?_of_mem z
    rw [(W.at_ j k hj).mpr hk] at e
    cases e
  · intro z
    cases e : oAt owner j with
    | none => rfl
    | some k => exact absurd (List.mem_of_getElem? ((W.at_ j k hj).mp e)) z
theorem Ow.step {m : Nat} (hm : MOk m) {ps : List Nat} {owner : Array (Option Nat)} (W : Ow m ps owner) (hl : ps.length ≤ m) (h : Int) :
    ∃ j, SetTable.layClean.free m owner (SetTable.turns m) (SetTable.bits h % (m + 1)) (SetTable.bits h) = some j ∧ Ow m (ps ++ [j]) (owner.setIfInBounds j (some ps.length)) := by
  obtain ⟨a, a1, a2⟩ := st_missing ps (m + 1) (Nat.lt_succ_of_le hl)
  obtain ⟨j, e, hj, no⟩ := free_to hm owner h (Nat.le_of_lt_succ a1) ((W.free (Nat.le_of_lt_succ a1)).mpr a2)
  have out := (W.free hj).mp no
  refine ⟨j, e, (Array.size_setIfInBounds ..).trans W.sz, fun i k hi => ?_, fun i hi => ?_⟩
  · by_cases c : i = j
    · rw [c, oAt_set_self _ (by rw [W.sz]; omega)]
      constructor
      · intro z
        cases z
        rw [List.getElem?_append_right (Nat.le_refl _), Nat.sub_self]
        rfl
      · intro z
        rcases Nat.lt_or_ge k ps.length with hk | hk
        · rw [List.getElem?_append_left hk] at z
          exact absurd (List.mem_of_getElem? z) out
        · have := (List.getElem?_eq_some_iff.mp z).1
          rw [List.length_append, List.length_singleton] at this
          rw [show k = ps.length by omega]
    · rw [oAt_set_ne _ c, W.at_ i k hi]
      rcases Nat.lt_or_ge k ps.length with hk | hk
      · rw [List.getElem?_append_left hk]
      · rw [List.getElem?_eq_none hk, List.getElem?_append_right hk]
        constructor
        · intro z
          cases z
        · intro z
          exact absurd (List.mem_singleton.mp (List.mem_of_getElem? z)) c
  · rcases List.mem_append.mp hi with hi | hi
    · exact W.bd i hi
    · rw [List.mem_singleton.mp hi]
      exact hj
theorem Ow.fold {m : Nat} (hm : MOk m) : ∀ (hs : List Int) (ps : List Nat) (owner : Array (Option Nat)), Ow m ps owner → ps.length + hs.length ≤ m + 1 →
    ∃ ps' owner', hs.foldl (L2.stepF m) (some (owner, ps.length)) = some (owner', ps'.length) ∧ ps'.length = ps.length + hs.length ∧ Ow m ps' owner'
  | [], ps, owner, W, _ => ⟨ps, owner, rfl, rfl, W⟩
  | h :: hs, ps, owner, W, hl => by
    rw [List.length_cons] at hl
    obtain ⟨j, e, W2⟩ := W.step hm (by omega) h
    have l2 : (ps ++ [j]).length = ps.length + 1 := List.length_append
    obtain ⟨ps', owner', f, l3, W3⟩ := Ow.fold hm hs (ps ++ [j]) _ W2 (by omega)
    rw [l2] at f l3
    exact ⟨ps', owner', by rw [List.foldl_cons, L2.stepF_some e]; exact f, by rw [l3, List.length_cons]; omega, W3⟩
structure Laid (t : SetTable) (n : Nat) : Prop where
  mok : MOk t.mask
  ris : Ris t.place.toList
  dm : t.dummies = #[]
  sz : t.place.size = n
theorem Laid.fits {t : SetTable} {n : Nat} (L : Laid t n) (h : n ≤ t.mask) : t.fits n = true := by
  unfold SetTable.fits SetTable.fill
  rw [L.dm, L.sz, Bool.and_eq_true, beq_iff_eq, decide_eq_true_eq]
  exact ⟨rfl, by simpa using h⟩
theorem Laid.odd {t : SetTable} {n : Nat} (L : Laid t n) : ¬ t.gaveWay = true := by
  unfold SetTable.gaveWay
  rw [L.mok.le.2.2]
  decide
theorem relaid_to (t : SetTable) {hs : Array Int} {wanted M : Nat} (hw : SetTable.sizeAbove wanted - 1 = M) (hM : MOk M) (hn : hs.size ≤ M) :
    ∃ t' order, t.relaid hs wanted = some (t', order) ∧ order.toList.Perm (List.range hs.size) ∧ t'.mask = M ∧ Laid t' hs.size := by
  have W0 : Ow M [] (Array.replicate (M + 1) none) := ⟨Array.size_replicate .., fun j k hj => ⟨fun z => (by rw [oAt_init hj] at z; cases z), fun z => (by cases z)⟩, fun j hj => (by cases hj)⟩
  obtain ⟨ps, owner, f, lp, W⟩ := Ow.fold hM hs.toList [] _ W0 (by show 0 + hs.toList.length ≤ M + 1; rw [Array.length_toList]; omega)
  have lp : ps.length = hs.size := by rw [lp]; show 0 + hs.toList.length = hs.size; rw [Array.length_toList, Nat.zero_add]
  have live : ∀ j k, (j, k) ∈ liveOf M owner ↔ ps[k]? = some j := fun j k => by
    rw [mem_live W.sz]
    exact ⟨fun z => (W.at_ j k z.1).mp z.2, fun z => have b := W.bd j (List.mem_of_getElem? z); ⟨b, (W.at_ j k b).mpr z⟩⟩
  have rising : Ris ((liveOf M owner).map (·.1)) := (ris_live (fun j => owner.getD j none) (List.range (M + 1)) List.pairwise_lt_range).1
  have each : ∀ k, k < hs.size → k ∈ (liveOf M owner).map (·.2) := fun k hk => List.mem_map.mpr ⟨(ps[k]'(by omega), k), (live _ k).mpr (List.getElem?_eq_getElem (by omega)), rfl⟩
  have many : (liveOf M owner).length = hs.size := by
    refine Nat.le_antisymm ?_ ?_
    · have := nat_nodup_len _ ps (rising.imp Nat.ne_of_lt) fun j hj => by
        obtain ⟨⟨i, k⟩, z, rfl⟩ := List.mem_map.mp hj
        exact List.mem_of_getElem? ((live i k).mp z)
      rwa [List.length_map, lp] at this
    · have := nat_nodup_len _ _ List.nodup_range fun k hk => each k (List.mem_range.mp hk)
      rwa [List.length_range, List.length_map] at this
  have told : t.relaid hs wanted = some (tabOf t M owner, ((liveOf M owner).map (·.2)).toArray) := by
    rw [relaid_eq, hw, layClean_eq]
    exact congrArg (fun z : Option (Array (Option Nat) × Nat) => (z.map (·.1)).bind fun owner => some (tabOf t M owner, ((liveOf M owner).map (·.2)).toArray)) f
  exact ⟨_, _, told, perm_range _ _ ((List.length_map ..).trans many) each, rfl, hM, rising, rfl, List.size_toArray.trans ((List.length_map ..).trans many)⟩
/-! ### one more put in, of a hash that isn't there -/
theorem first_free {t : SetTable} {n : Nat} (L : Laid t n) (hn : n ≤ t.mask) (h : Int) : ∃ K, K < 10 * SetTable.turns t.mask ∧ way t.mask h K ∉ t.place.toList ∧ ∀ k, k < K → way t.mask h k ∈ t.place.toList := by
  obtain ⟨j, hj, hn⟩ := st_missing t.place.toList (t.mask + 1) (by rw [Array.length_toList, L.sz]; omega)
  obtain ⟨k, hk, e⟩ := way_to L.mok h (Nat.le_of_lt_succ hj)
  obtain ⟨K, h1, h2, h3⟩ := st_least (p := fun k => way t.mask h k ∉ t.place.toList) k (by rw [e]; exact hn)
  exact ⟨K, Nat.lt_of_le_of_lt h1 hk, h2, fun c hc => Classical.not_not.mp (h3 c hc)⟩
structure SetH (h : Heap) (a : Addr) (hs : List Int) : Prop where
  ex : ∃ (o : Obj) (es : Array (Int × Value)) (ep : Nat) (t : SetTable), h.get? a = some o ∧ o.ExactSet ∧ o.data = .set es ep t ∧ (es.toList.map (·.1)).Perm hs ∧ Laid t es.size ∧ es.size * 5 < t.mask * 3
theorem SetH.keep {h h' : Heap} {a : Addr} {hs : List Int} (S : SetH h a hs) (k : ∀ o, h.get? a = some o → h'.get? a = some o) : SetH h' a hs := by
  obtain ⟨o, es, ep, t, h1, h2⟩ := S.ex
  exact ⟨o, es, ep, t, k o h1, h2⟩
section
variable {P : Program} {w : World} {A : Around} {E : Value → Shared → Prop} {s : Shared} {a : Addr} {es : Array (Int × Value)} {ep : Nat} {t : SetTable} {o : Obj}
theorem search_new (ho : s.heap.get? a = some o) (hd : o.data = .set es ep t) (L : Laid t es.size) (hn : es.size ≤ t.mask) {x : Value} {h : Int} (hh : h ∉ es.toList.map (·.1)) {Q : SetFound → Shared → Prop}
    (k : ∀ K, way t.mask h K ∉ t.place.toList → Q (.free (way t.mask h K) false) s) : wpAny (model P w) A (setSearch a x h true) Q E s := by
  obtain ⟨K, hK, hKn, hKb⟩ := first_free L hn h
  unfold setSearch
  rw [show (100000 : Nat) = 99999 + 1 from rfl, setSearchFrom_succ]
  refine wpAny_bind (wpAny_setState_of ho hd (L.fits hn) ?_)
  dsimp only
  refine wp_if_neg L.odd ?_
  try refine wpAny_bind (wpAny_pure ?_)
  have spec := go_spec t L.ris L.dm (fun i => (es[i]?.map (·.1)).getD 0) h (10 * SetTable.turns t.mask) K (runAt t.mask (SetTable.bits h % (t.mask + 1)) (SetTable.bits h)) rfl hK hKb hKn
  rcases spec with ⟨q, i, _, hi, e, _⟩ | ⟨_, e⟩
  · exfalso
    have il : i < es.size := by
      have := (List.getElem?_eq_some_iff.mp hi).1
      rw [Array.length_toList, L.sz] at this
      exact this
    have e2 : es[i]? = some es[i] := Array.getElem?_eq_getElem il
    have e : (es[i]?.map (·.1)).getD 0 = h := e
    rw [e2] at e
    exact hh (List.mem_map.mpr ⟨es[i], Array.mem_def.mp (Array.getElem_mem il), e⟩)
  · have pr : t.probe (fun i => (es[i]?.map (·.1)).getD 0) h ((none : Option SetTable.Probe).getD (t.probeStart h)) = some (.empty (way t.mask h K) none) := e
    rw [pr]
    dsimp only
    exact wpAny_pure (k K hKn)
theorem laid_put {n : Nat} (L : Laid t n) {j : Nat} (hj : j ∉ t.place.toList) : Laid (t.put j).1 (n + 1) := by
  have hnp : t.place[SetTable.below t.place j]? ≠ some j := fun e => hj (List.mem_of_getElem? (by rw [Array.getElem?_toList]; exact e))
  refine ⟨L.mok, ris_insert L.ris hnp, put_dm L.dm j, ?_⟩
  have h1 := congrArg List.length (put_place t j)
  have c := (below_cut L.ris j).1
  have c2 := L.sz
  rw [len_ins _ (by rw [Array.length_toList]; exact c), Array.length_toList, Array.length_toList, L.sz] at h1
  exact h1
theorem size_308 : SetTable.sizeAbove (SetTable.grown 77) = 512 := by decide +kernel
theorem relay_to (ho : s.heap.get? a = some o) (hex : o.ExactSet) (hd : o.data = .set es ep t) (L : Laid t es.size) (hn : es.size ≤ t.mask) {hs : List Int} (pm : (es.toList.map (·.1)).Perm hs) {wanted M : Nat}
    (hw : SetTable.sizeAbove wanted - 1 = M) (hM : MOk M) (hw2 : SetTable.sizeAbove wanted ≤ 512) (hm : es.size * 5 < M * 3) {Q : Unit → Shared → Prop}
    (hQ : ∀ h', Heap.SameBut a s.heap h' → SetH h' a hs → Q () { s with heap := h' }) : wpAny (model P w) A (setRelay a wanted) Q E s := by
  have := hM.le
  obtain ⟨t', order, e, hp, em, L'⟩ := relaid_to t (hs := es.map (·.1)) hw hM (by rw [Array.size_map]; omega)
  rw [Array.size_map] at hp L'
  have p2 : (order.filterMap (es[·]?)).toList.Perm es.toList := by
    rw [Array.toList_filterMap]
    have := hp.filterMap (fun i => es[i]?)
    rw [filterMap_getElem?_range] at this
    exact this
  have hs2 : (order.filterMap (es[·]?)).size = es.size := by
    have := p2.length_eq
    rw [Array.length_toList, Array.length_toList] at this
    exact this
  rw [setRelay_eq]
  refine wpAny_bind (wpAny_setState_of ho hd (L.fits hn) ?_)
  dsimp only
  refine wp_if_neg (by rw [sizeLine_eq]; omega) ?_
  try refine wpAny_bind (wpAny_pure ?_)
  rw [e]
  dsimp only
  refine wpAny_bind ?_
  refine wp_if_neg (by rw [hs2]; simp) ?_
  try refine wpAny_bind (wpAny_pure ?_)
  refine wpAny_pure ?_
  dsimp only
  refine wpAny_storeSet_of ho hd ?_ (by rw [hs2, sizeLine_eq]; omega)
  exact hQ _ (Heap.SameBut.update ..) ⟨_, _, ep + 1, t', store_at ho hd, ⟨hex.1, hex.2.1, hex.2.2⟩, rfl, (p2.map _).trans pm, by rw [hs2]; exact L', by rw [hs2, em]; exact hm⟩
def HBy (P : Program) (w : World) (n : Nat) (s : Shared) (v : Value) : Prop := ∀ (A : Around) (E : Value → Shared → Prop) (Q : Bool → Shared → Prop), Q true s → wpAny (model P w) A (hashByValue n v) Q E s
theorem add_new {hs : List Int} (S : SetH s.heap a hs) {x : Addr} {h : Int} (hx : HBy P w 8 s (.ref x)) (hh : h ∉ hs) (hl : hs.length + 1 ≤ 100) {Q : Bool → Shared → Prop}
    (hQ : ∀ h', Heap.SameBut a s.heap h' → SetH h' a (h :: hs) → Q true { s with heap := h' }) : wpAny (model P w) A (setAddHashed a (.ref x) h) Q E s := by
  obtain ⟨o, es, ep, t, ho, hex, hd, pm, L, room⟩ := S.ex
  have hsz : es.size = hs.length := by
    have := pm.length_eq
    rw [List.length_map, Array.length_toList] at this
    exact this
  have ml := L.mok.le
  have hn : es.size ≤ t.mask := by omega
  unfold setAddHashed
  refine wpAny_holding ?_
  rw [show (100000 : Nat) = 99999 + 1 from rfl, setAddHashedIn_succ]
  refine wpAny_bind (wpAny_setState_of ho hd (L.fits hn) ?_)
  dsimp only
  refine wp_if_neg (by simp [byScan, Value.scannable]) ?_
  try refine wpAny_bind (wpAny_pure ?_)
  refine wpAny_bind (search_new ho hd L hn (fun z => hh (pm.mem_iff.mp z)) fun K hK => ?_)
  dsimp only
  refine wpAny_bind (wpAny_setState_of ho hd (L.fits hn) ?_)
  dsimp only
  have L1 := laid_put L hK
  have em : (t.put (way t.mask h K)).1.mask = t.mask := rfl
  generalize hpt : t.put (way t.mask h K) = pt at L1 em ⊢
  obtain ⟨t1, p⟩ := pt
  dsimp only at L1 em ⊢
  have rest : ∀ es1 : Array (Int × Value), es1.toList.Perm ((h, Value.ref x) :: es.toList) → wpAny (model P w) A (do
      storeSet a es1 t1
      if !false && t1.tooFull then setRelay a (SetTable.grown (es.size + 1))
      return true) Q E s := fun es1 p1 => by
    have s1 : es1.size = es.size + 1 := by
      have := p1.length_eq
      rw [Array.length_toList, List.length_cons, Array.length_toList] at this
      exact this
    rw [← s1] at L1
    have q1 : (es1.toList.map (·.1)).Perm (h :: hs) := (p1.map _).trans (by rw [List.map_cons]; exact pm.cons _)
    refine wpAny_bind (wpAny_storeSet_of ho hd ?_ (by rw [s1, sizeLine_eq]; omega))
    have sb : Heap.SameBut a s.heap (s.heap.update a (Obj.putSet es1 t1)) := Heap.SameBut.update ..
    have ho1 := store_at (es' := es1) (t' := t1) ho hd
    generalize s.heap.update a (Obj.putSet es1 t1) = h1 at sb ho1 ⊢
    have fl : t1.fill = es1.size := by
      unfold SetTable.fill
      rw [L1.dm, L1.sz]
      rfl
    by_cases hf : t1.tooFull = true
    · first
        | (refine wpAny_bind ?_; refine wp_if_pos (by simp [hf]) ?_)
        | (refine wp_if_pos (by simp [hf]) ?_; refine wpAny_bind ?_)
      have full : es1.size * 5 ≥ t.mask * 3 := by
        unfold SetTable.tooFull at hf
        rw [decide_eq_true_eq, fl, em] at hf
        exact hf
      have go : ∀ M, SetTable.sizeAbove (SetTable.grown (es.size + 1)) - 1 = M → MOk M → SetTable.sizeAbove (SetTable.grown (es.size + 1)) ≤ 512 → es1.size * 5 < M * 3 →
          wpAny (model P w) A (setRelay a (SetTable.grown (es.size + 1))) (fun _ s' => wpAny (model P w) A (pure true) Q E s') E { s with heap := h1 } := fun M g1 g2 g3 g4 => by
        refine relay_to (s := { s with heap := h1 }) ho1 ⟨hex.1, hex.2.1, hex.2.2⟩ rfl L1 (by rw [em]; omega) q1 g1 g2 g3 g4 fun h2 sb2 S2 => ?_
        exact wpAny_pure (hQ h2 (sb.trans sb2) S2)
      rcases L.mok with (e | e | e) | e
      · have c : es.size = 4 := by omega
        exact go 31 (by rw [c, size_20]) (.inl (.inr (.inl rfl))) (by rw [c, size_20]; decide) (by omega)
      · have c : es.size = 18 := by omega
        exact go 127 (by rw [c, size_76]) (.inl (.inr (.inr rfl))) (by rw [c, size_76]; decide) (by omega)
      · have c : es.size = 76 := by omega
        exact go 511 (by rw [c, size_308]) (.inr rfl) (by rw [c, size_308]; decide) (by omega)
      · omega
    · first
        | refine wp_if_neg (by simp [hf]) ?_
        | (refine wpAny_bind ?_; refine wp_if_neg (by simp [hf]) ?_; refine wpAny_pure ?_)
      refine wpAny_pure (hQ h1 sb ⟨_, es1, ep + 1, t1, ho1, ⟨hex.1, hex.2.1, hex.2.2⟩, rfl, q1, L1, ?_⟩)
      unfold SetTable.tooFull at hf
      rw [decide_eq_true_eq, fl] at hf
      omega
  have pin := SetTable.insertAt_perm es p (h, Value.ref x)
  have pin2 : (SetTable.insertAt es p (h, Value.ref x)).toList.Perm ((h, Value.ref x) :: es.toList) := pin.trans (by rw [Array.toList_push]; exact List.perm_append_singleton _ _)
  by_cases hp : t1.plain = true
  · first
      | (refine wpAny_bind ?_; refine wp_if_pos hp ?_; refine hx _ _ _ ?_)
      | refine wp_if_pos hp (wpAny_bind (hx _ _ _ ?_))
    simp only [if_true]
    exact rest _ pin2
  · first
      | (refine wpAny_bind ?_; refine wp_if_neg hp ?_; refine wpAny_pure ?_)
      | refine wp_if_neg hp (wpAny_bind (wpAny_pure ?_))
      | refine wp_if_neg hp ?_
    simp only [if_true]
    exact rest _ pin2
end
/-! ### a pair (whole number, tuple of whole numbers) as an element -/
section
variable {P : Program} {w : World} {s : Shared}
theorem hby_int (n : Nat) (i : Int) (t : Tok) : HBy P w n s (.int i t) := fun A E Q h => by
  rw [hashBy_int]
  exact wpAny_pure h
theorem hby_bool (n : Nat) (b : Bool) : HBy P w n s (.bool b) := fun A E Q h => by
  have e : hashByValue n (.bool b) = pure true := by cases n <;> rfl
  rw [e]
  exact wpAny_pure h
theorem hby_tup {n : Nat} {a : Addr} {o : Obj} {vs : Array Value} {m : Nat} (ho : s.heap.get? a = some o) (hc : o.cls = .type "tuple") (hd : o.data = .seq vs m) (hv : ∀ v ∈ vs.toList, HBy P w n s v) : HBy P w (n + 1) s (.ref a) := fun A E Q h => by
  have hT : s.TypeIs (.ref a) "tuple" := ⟨o, ho, hc⟩
  unfold hashByValue
  refine wpAny_bind (wpAny_specialOf hT F.slot_tuple_hash.lookup ?_)
  show wpAny _ _ (seqItems? (.ref a) >>= _) _ _ s
  refine wpAny_bind (wpAny_seqItems ho hd ?_)
  refine wpAny_bind ?_
  show wpAny _ _ (forIn vs _ _) _ _ s
  rw [← Array.forIn_toList]
  refine wpAny_forIn_list _ (fun rest r s' => r.1 = none ∧ s' = s ∧ ∀ v ∈ rest, HBy P w n s v) _ ?_ ?_ _ _ ⟨rfl, rfl, hv⟩
  · rintro v rest r s' ⟨hr, rfl, hall⟩
    refine wpAny_bind (hall v List.mem_cons_self _ _ _ ?_)
    simp only [Bool.not_true, Bool.false_eq_true, if_false]
    exact wpAny_pure ⟨rfl, rfl, fun u hu => hall u (List.mem_cons_of_mem _ hu)⟩
  · rintro ⟨r1, r2⟩ s' ⟨hr, rfl, _⟩
    simp only at hr
    subst hr
    exact wpAny_pure h
abbrev pkey (p : Int × List Int) : NestedKey := .tup [.num p.1, .tup (p.2.map NestedKey.num)]
def phash (p : Int × List Int) : Int := reduceHash (Builtin.Tuple.tupleHashOf [hashInt p.1, reduceHash (Builtin.Tuple.tupleHashOf (p.2.map hashInt))])
theorem hashes_num (w : World) : ∀ l : List Int, NestedKey.hashes w (l.map NestedKey.num) = l.map hashInt
  | [] => by simp [NestedKey.hashes]
  | x :: l => by simp [NestedKey.hashes, NestedKey.hash, hashes_num w l]
theorem pkey_hash (w : World) (p : Int × List Int) : (pkey p).hash w = phash p := by
  simp [NestedKey.hash, NestedKey.hashes, phash, hashes_num]
theorem depth_num : ∀ l : List Int, NestedKey.depthAll (l.map NestedKey.num) = 0
  | [] => by simp [NestedKey.depthAll]
  | x :: l => by simp [NestedKey.depthAll, NestedKey.depth, depth_num l]
theorem pkey_depth (p : Int × List Int) : (pkey p).depth = 2 := by
  simp [NestedKey.depth, NestedKey.depthAll, depth_num]
theorem hby_num {n : Nat} {i : Int} {v : Value} (h : NestedIs s.heap (.num i) v) : HBy P w n s v := by
  cases h with
  | bool e => exact hby_bool n _
  | int _ t => exact hby_int n _ t
theorem hby_nums {n : Nat} : ∀ {l : List Int} {vs : List Value}, NestedAll s.heap (l.map NestedKey.num) vs → ∀ v ∈ vs, HBy P w n s v
  | [], _, h, v, hv => by cases h; cases hv
  | x :: l, _, h, v, hv => by
    cases h with
    | cons h1 h2 =>
      rcases List.mem_cons.mp hv with e | hv
      · rw [e]; exact hby_num h1
      · exact hby_nums h2 v hv
theorem hby_pair {p : Int × List Int} {v : Value} (h : NestedIs s.heap (pkey p) v) : HBy P w 8 s v := by
  cases h with
  | tup h1 h2 h3 h4 =>
    refine hby_tup (n := 7) h1 h2 h3 fun u hu => ?_
    generalize hL : Array.toList _ = L at h4 hu
    cases h4 with
    | cons k1 k2 =>
      cases k2 with
      | cons k2 k3 =>
        cases k3
        rcases List.mem_cons.mp hu with e | hu
        · rw [e]; exact hby_num k1
        · rw [List.mem_singleton.mp hu]
          cases k2 with
          | tup g1 g2 g3 g4 => exact hby_tup (n := 6) g1 g2 g3 (hby_nums g4)
end
/-! ### set(l) of a list of such pairs, all of their own hash -/
abbrev Prs := List (Addr × (Int × List Int))
abbrev hof (hf : Int × List Int → Int) (ks : Prs) : List Int := ks.map fun p => hf p.2
/-- the one heap holds what the other held -/
abbrev Grows (h h' : Heap) : Prop := ∀ b o, h.get? b = some o → h'.get? b = some o
theorem Grows.nested {h h' : Heap} (g : Grows h h') {k : NestedKey} {v : Value} (x : NestedIs h k v) : NestedIs h' k v := NestedIs.at (fun b o _ _ e _ => g b o e) k v x
theorem Grows.moved {h0 : Heap} {wr : List Addr} {G : Array GenState → Array GenState → Prop} {s s' : Shared} (g : Grows h0 s.heap) (m : Moved wr G s s') (no : ∀ b ∈ wr, h0.get? b = none) : Grows h0 s'.heap := fun b o e => by
  by_cases hb : b ∈ wr
  · rw [no b hb] at e
    cases e
  · exact m.heap b o hb (g b o e)
theorem Grows.but {h0 h h' : Heap} {S : Addr} (g : Grows h0 h) (m : Heap.SameBut S h h') (no : h0.get? S = none) : Grows h0 h' := fun b o e => by
  by_cases hb : b = S
  · rw [hb, no] at e
    cases e
  · rw [m.2 b hb]
    exact g b o e
section
variable {P : Program} {w : World} {A : Around} {E : Value → Shared → Prop} {s : Shared} {hf : Int × List Int → Int}
/-- what is walked, laid into the set one by one: by what is done and what is left -/
theorem upd_pairs {I S : Addr} {fp wr : List Addr} {G : Array GenState → Array GenState → Prop} {Pv : Nat → Value → Prop} {St : Nat → Shared → Prop} {R : Result → Shared → Prop} {ks : Prs} {h0 : Heap}
    (W : WalksS P w A.in1 I fp wr G ks.length Pv St) (free : S ∉ fp) (few : ks.length ≤ 99) (hhf : ∀ p, (pkey p).hash w = hf p) (nd : (hof hf ks).Nodup) (val : ∀ i v, Pv i v → ∃ p, ks[i]? = some p ∧ v = .ref p.1)
    (keys : ∀ p ∈ ks, NestedIs h0 (pkey p.2) (.ref p.1)) (noS : h0.get? S = none) (noW : ∀ b ∈ wr, h0.get? b = none) (un : A.in1.units + 2 < cLine) :
    ∀ (rest done : Prs) (s : Shared), ks = done ++ rest → St done.length s → Grows h0 s.heap → SetH s.heap S (hof hf done).reverse →
      (∀ s', Moved (S :: wr) G s s' → SetH s'.heap S (hof hf ks).reverse → Grows h0 s'.heap → R (.ok (.ret .none)) s') → codeAny (model P w) A (.builtin "set.update.loop" ⟨[.ref S, .ref I], []⟩) R s
  | [], done, s, ek, st, g, hS, out => by
    have notw : S ∉ wr := fun z => free (W.sub _ z)
    rw [List.append_nil] at ek
    rw [← ek] at st hS
    refine codeAny_builtin F.entry_set_update_loop ((Around.under_plainId F.plain_set_update_loop _).symm ▸ ?_)
    show wpAny _ A.in1 (Bind.bind (pyNext (.ref I)) _) _ _ s
    exact wpAny_bind (W.done s _ _ st fun s1 m => wpAny_pure (out s1 (m.mono fun b => List.mem_cons_of_mem _) (hS.keep fun o => m.heap S o notw) (g.moved m noW)))
  | p :: rest, done, s, ek, st, g, hS, out => by
    have notw : S ∉ wr := fun z => free (W.sub _ z)
    have at_p : ks[done.length]? = some p := by
      rw [ek, List.getElem?_append_right (Nat.le_refl _), Nat.sub_self]
      rfl
    have lt : done.length < ks.length := (List.getElem?_eq_some_iff.mp at_p).1
    refine codeAny_builtin F.entry_set_update_loop ((Around.under_plainId F.plain_set_update_loop _).symm ▸ ?_)
    show wpAny _ A.in1 (Bind.bind (pyNext (.ref I)) _) _ _ s
    refine wpAny_bind (W.item done.length s _ _ lt st fun v s1 pv st1 m => ?_)
    obtain ⟨q, hq, rfl⟩ := val _ v pv
    obtain rfl : q = p := Option.some.inj (hq.symm.trans at_p)
    have g1 := g.moved m noW
    have key := g1.nested (keys q (List.mem_of_getElem? hq))
    have fresh : hf q.2 ∉ (hof hf done).reverse := fun z => by
      have two : ((done ++ q :: rest).map fun p => hf p.2).Nodup := by
        rw [← ek]
        exact nd
      rw [List.map_append] at two
      exact (List.nodup_append.mp two).2.2 _ (List.mem_reverse.mp z) _ (List.mem_map.mpr ⟨q, List.mem_cons_self, rfl⟩) rfl
    have room : (hof hf done).reverse.length + 1 ≤ 100 := by
      rw [List.length_reverse, List.length_map]
      omega
    show wpAny _ A.in1 (Bind.bind (holding [Value.ref q.1] (holding [Value.ref q.1] _)) _) _ _ s1
    refine wpAny_bind (wpAny_holding (wpAny_holding (wpAny_bind (pyHash_key (pkey q.2) (.ref q.1) _ s1 _ key (by rw [pkey_depth]; exact un) ?_))))
    rw [hhf]
    generalize (pkey q.2).draws = dr
    have key2 : NestedIs (Shared.heap { s1 with toks := s1.toks + dr }) (pkey q.2) (.ref q.1) := key
    refine add_new (s := { s1 with toks := s1.toks + dr }) (hS.keep fun o => m.heap S o notw) (hby_pair key2) fresh room fun h2 but hS2 => ?_
    have st2 : St (done ++ [q]).length { s1 with toks := s1.toks + dr, heap := h2 } := by
      rw [List.length_append]
      exact W.frame _ s1 _ _ st1 (Nat.le_add_right _ _) fun b hb o e => (but.2 b fun z => free (z ▸ hb)).trans e
    have hS3 : SetH h2 S (hof hf (done ++ [q])).reverse := by
      show SetH h2 S ((done ++ [q]).map fun p => hf p.2).reverse
      rw [List.map_append, List.reverse_append]
      exact hS2
    have go := upd_pairs (R := R) W free few hhf nd val keys noS noW un rest (done ++ [q]) { s1 with toks := s1.toks + dr, heap := h2 } (by rw [ek, List.append_assoc]; rfl) st2 (g1.but but noS) hS3
    exact wpAny_pure ⟨plainId_quiet F.plain_set_update_loop _, go fun s3 m3 hS4 g3 => out s3 (Moved.trans W.gtrans ((m.mono fun b => List.mem_cons_of_mem _).then_heap (Nat.le_add_right _ _) fun b o hb e => (but.2 b fun z => hb (z ▸ List.mem_cons_self)).trans e) m3) hS4 g3⟩
/-- the set as it is made -/
abbrev newSetO (w : World) : Obj := { cls := .type "set", dict := none, data := .set #[] 0 (.fresh 0 0 (!w.params.followText "set-order")) }
theorem setH_new {h : Heap} {a : Addr} (ho : h.get? a = some (newSetO w)) : SetH h a [] :=
  ⟨_, _, _, _, ho, ⟨rfl, rfl, rfl⟩, rfl, List.Perm.refl _, ⟨.inl (.inl rfl), List.Pairwise.nil, rfl, rfl⟩, by show 0 * 5 < 7 * 3; decide⟩
set_option maxHeartbeats 3200000 in
/-- set(l) -/
theorem call_set_pairs {l : Addr} {items : Array Value} (ks : Prs) {Q : Value → Shared → Prop} (hh : A.handled = none) (hl : s.heap.IsList l items) (hit : items.toList = ks.map fun p => Value.ref p.1)
    (keys : ∀ p ∈ ks, NestedIs s.heap (pkey p.2) (.ref p.1)) (few : ks.length ≤ 99) (hhf : ∀ p, (pkey p).hash w = hf p) (nd : (hof hf ks).Nodup) (un : A.units + 5 < cLine)
    (k : ∀ (h' : Heap) (tk : Nat), SetH h' s.heap.objs.size (hof hf ks).reverse → Grows s.heap h' → Q (.ref s.heap.objs.size) { s with heap := h', toks := tk }) :
    wpAny (model P w) A (call (.type "set") [.ref l]) Q E s := by
  have sz : items.size = ks.length := by rw [← Array.length_toList, hit, List.length_map]
  have lS : l < s.heap.objs.size := hl.elim fun _ z => Heap.lt_size z.1
  have gone : ∀ b, s.heap.objs.size ≤ b → s.heap.get? b = none := fun b hb => by
    cases q : s.heap.get? b with
    | none => rfl
    | some o => exact absurd (Heap.lt_size q) (Nat.not_lt.mpr hb)
  have push1 : Grows s.heap (s.heap.push (newSetO w)) := fun b o e => Heap.get?_push_of_some _ e
  have isS : (s.heap.push (newSetO w)).get? s.heap.objs.size = some (newSetO w) := Heap.get?_push_size _ rfl
  have size1 : (s.heap.push (newSetO w)).objs.size = s.heap.objs.size + 1 := Heap.size_push ..
  have T : Shared.TypeIs { s with heap := s.heap.push (newSetO w) } (.ref s.heap.objs.size) "set" := ⟨_, isS, rfl⟩
  have fs := F.called_set
  obtain ⟨⟨_, _, mro⟩, made, sub, nt, cc, tc⟩ := And.intro fs.mro (And.intro fs.made (And.intro fs.sub (And.intro fs.notType (And.intro fs.canCreate (F.typeCall_set_1 (.ref l))))))
  have look := fs.init.lookup
  have bound := fs.init.bind (.ref s.heap.objs.size)
  refine wpAny_call (codeAny_of_tree (show wpAny _ _ (callAny (.type "set") _) _ _ _ from wpAny_pure ⟨Code.quiet_builtin _ (by decide +kernel), codeAny_builtin F.entry_type_call ?_⟩))
  rw [Around.under_plain (weight_type_call_type "set" [.ref l] []) rfl]
  repeat (any_goals (first | assumption | wp_step))
  refine codeAny_mono (code_set_led1 (.ref l) (E := E) (Q₁ := fun obj s1 => obj = .ref s.heap.objs.size ∧ s1 = { s with heap := s.heap.push (newSetO w) }) ⟨rfl, rfl⟩) fun
    | .error _, _, z => z
    | .ok (.ret _), _, ⟨rfl, rfl⟩ => ?_
  repeat (any_goals (first | assumption | wp_step))
  refine codeAny_mono (codeAny_call_builtin (R := wants (fun r s2 => r = .none ∧ ∃ h' tk, s2 = { s with heap := h', toks := tk } ∧ SetH h' s.heap.objs.size (hof hf ks).reverse ∧ Grows s.heap h') E) fs.init.plain F.entry_set_init (check_set_init_1 T ?_)) ?_
  · obtain ⟨⟨oc, od, oda, osl⟩, isl, rfl, m, rfl⟩ := hl
    have isl1 := push1 _ _ isl
    have il1 : (s.heap.push (newSetO w)).IsList l items := ⟨_, isl1, rfl, m, rfl⟩
    have n1 := F.sub_list_set
    have n2 := F.sub_list_frozenset
    have n3 : (Value.type "list" == Value.type "dict") = false := by decide
    unfold Builtin.«set.__init__» noKeywords Builtin.Frozenset.updateFrom
    generalize hPI : pyIter = PI
    wp_walk
    subst hPI
    refine wpAny_pyIter_list il1 (wpAny_bind (wpAny_runValue ?_))
    have walk := (Walks.list (prog := P) (w := w) (A := A.in1.in1.in1) (by simp [hh]) (s.heap.push (newSetO w)).objs.size l (by rw [size1]; exact Nat.ne_of_lt (Nat.lt_succ_of_lt lS)) items).toS
    rw [sz] at walk
    refine upd_pairs walk (by rw [size1]; simp only [List.mem_cons, List.not_mem_nil, or_false, not_or]; exact ⟨Nat.ne_of_lt (Nat.lt_succ_self _), Nat.ne_of_gt lS⟩) few hhf nd (fun i v hv => ?_) keys (gone _ (Nat.le_refl _)) (fun b hb => gone b (by rw [List.mem_singleton.mp hb, size1]; exact Nat.le_succ _))
      (by simp only [Around.in1_units]; omega) ks [] _ rfl ⟨⟨_, Heap.get?_push_size _ rfl, rfl, rfl⟩, il1.push _⟩ (fun b o e => Heap.get?_push_of_some _ (push1 b o e)) (setH_new (Heap.get?_push_of_some _ isS)) ?_
    · have q : items.toList[i]? = some v := by rw [Array.getElem?_toList]; exact hv
      rw [hit, List.getElem?_map] at q
      obtain ⟨p, hp, e⟩ := Option.map_eq_some_iff.mp q
      exact ⟨p, hp, e.symm⟩
    · rintro ⟨h', g', d', tk', os'⟩ m hS g
      obtain ⟨rfl, rfl, rfl⟩ : g' = s.gens ∧ d' = s.drawn ∧ os' = s.os := ⟨m.gens, m.drawn, m.os⟩
      exact wpAny_pure (show wpAny _ _ (ret Value.none) _ _ _ from wpAny_pure ⟨rfl, h', tk', rfl, hS, g⟩)
  · rintro (_ | fl) s2 z
    · exact z
    · cases fl with
      | ret r =>
        obtain ⟨rfl, h', tk, rfl, hS, g⟩ := z
        repeat (any_goals (first | assumption | wp_step))
        exact k _ _ hS g
      | _ => exact z.elim
end
/-! ### len(set(l)) of a list of pairs, all of their own hash -/
inductive PairV (K : PySem.W.Frag) (H : Hp) : V → Int × List Int → Prop
  | mk {b c : Addr} {p : Int × List Int} : SqT K H b [.int p.1, .ref c] → SqT K H c (p.2.map V.int) → PairV K H (.ref b) p
inductive PairsV (K : PySem.W.Frag) (H : Hp) : List V → List (Int × List Int) → Prop
  | nil : PairsV K H [] []
  | cons {x : V} {xs : List V} {p : Int × List Int} {ps : List (Int × List Int)} : PairV K H x p → PairsV K H xs ps → PairsV K H (x :: xs) (p :: ps)
def tLenSetP (K : PySem.W.Frag) (ta : TE) : TE := fun σ H Q => ta σ H fun x H1 => ∃ (l : Addr) (xs : List V) (ps : List (Int × List Int)), x = .ref l ∧ SqL K H1 l xs ∧ PairsV K H1 xs ps ∧ ps.length ≤ 99 ∧ (ps.map phash).Nodup ∧ Q (.int (ps.length : Nat)) H1
section
variable {X : Cx} {pins : List (Addr × Obj)} {σ : L2.St} {H : Hp} {s : Shared}
theorem nums_are {h : Heap} : ∀ {l : List Int} {us : List Value}, Vals (l.map V.int) us → NestedAll h (l.map NestedKey.num) us
  | [], _, .nil => .nil
  | n :: l, _, .cons r t => by
    obtain ⟨tk, rfl⟩ := r
    exact .cons (.int n tk) (nums_are t)
theorem pair_is (I : Inv X pins σ H s) {x : V} {p : Int × List Int} (h : PairV X.K H x p) {u : Value} (r : RelV x u) : ∃ b : Addr, u = .ref b ∧ NestedIs s.heap (pkey p) (.ref b) := by
  cases h with
  | @mk b c _ h1 h2 =>
    cases r
    obtain ⟨its, rv, ⟨o, ho, hc, n, hd⟩, _⟩ := I.tuple h1
    obtain ⟨its2, rv2, ⟨o2, ho2, hc2, n2, hd2⟩, _⟩ := I.tuple h2
    refine ⟨b, rfl, .tup ho hc hd ?_⟩
    cases rv with
    | cons r1 rv =>
      cases rv with
      | cons r2 rv =>
        cases rv
        obtain ⟨tk, rfl⟩ := r1
        cases r2
        exact .cons (.int p.1 tk) (.cons (.tup ho2 hc2 hd2 (by simpa using nums_are rv2)) .nil)
theorem pairs_are (I : Inv X pins σ H s) : ∀ {xs : List V} {ps : List (Int × List Int)} {us : List Value}, PairsV X.K H xs ps → Vals xs us → ∃ ks : Prs, ks.map (·.2) = ps ∧ us = ks.map (fun p => Value.ref p.1) ∧ ∀ p ∈ ks, NestedIs s.heap (pkey p.2) (.ref p.1)
  | _, _, _, .nil, .nil => ⟨[], rfl, rfl, fun _ h => by cases h⟩
  | _, _, _, .cons a b, .cons r t => by
    obtain ⟨b, rfl, h⟩ := pair_is I a r
    obtain ⟨ks, h1, h2, h3⟩ := pairs_are I ‹_› t
    exact ⟨(b, _) :: ks, by rw [List.map_cons, h1], by rw [List.map_cons, h2], fun p hp => by
      rcases List.mem_cons.mp hp with e | hp
      · rw [e]; exact h
      · exact h3 p hp⟩
theorem pe_lenSetP {a : Expr} {ta : TE} {p p2 q pos : Pos} (hg : Gl X "len") (hm : X.mg "len" = none) (hg2 : Gl X "set") (hm2 : X.mg "set" = none) (ha : PE X a ta) (hc : X.calm = true) (hu : X.A.units + 64 < cLine)
    (na : starEach [a] X.env = (false, eval a X.env) :: starEach [] X.env) : PE X (.Call (.Name "len" p) [.Call (.Name "set" p2) [a] [] q] [] pos) (tLenSetP X.K ta) := by
  refine ⟨fun pins s σ H Q I h => ?_⟩
  refine Call_ (ld_blt I hg hm boot_len ?_)
  refine PyProof.Rows.callWith_builtin1 (PyProof.Rows.args_cons ?_ rfl) rfl rfl
  refine Call_ (ld_blt I hg2 hm2 boot_set ?_)
  refine PyProof.Rows.callWith_type1 (PyProof.Rows.args_cons (thn (ha.run pins s σ H _ I h) fun v s1 ⟨x, H1, I1, r1, q1⟩ => PyProof.Rows.args_nil ?_) na) na rfl
  obtain ⟨l, xs, ps, rfl, hq, hp, few, nd, q1⟩ := q1
  cases r1
  obtain ⟨its, r, pl, hz⟩ := I1.list hq
  obtain ⟨ks, e1, e2, e3⟩ := pairs_are I1 hp r
  have lk : ks.length = ps.length := by rw [← e1, List.length_map]
  have eh : hof phash ks = ps.map phash := by rw [← e1, List.map_map]; rfl
  refine call_set_pairs ks (I1.ok.hd hc) pl.isList (by simpa using e2) e3 (by omega) (pkey_hash X.w) (by rw [eh]; exact nd) (by omega) fun h' tk S hk => ?_
  refine PyProof.Rows.args_nil ?_
  obtain ⟨o, es, ep, t, ho, hex, hd, pm, L, room⟩ := S.ex
  have hn : es.size = ps.length := by
    have := pm.length_eq
    rw [List.length_map, Array.length_toList, List.length_reverse, List.length_map] at this
    omega
  have I2 : Inv X pins σ H1 { s1 with heap := h', toks := tk } := I1.kept fun b o e => hk b o e
  exact call_len_set ho hex hd (L.fits (by omega)) (by rw [hn]; omega) ⟨.int (ps.length : Nat), H1, I2.tok _, ⟨_, by rw [hn]⟩, q1⟩
end
def asPair : PyData → Option (Int × List Int)
  | .tuple [.int i, .tuple ds] => (asInts ds).map fun l => (i, l)
  | _ => none
def asPairs : List PyData → Option (List (Int × List Int))
  | [] => some []
  | d :: ds => match asPair d, asPairs ds with
    | some p, some ps => some (p :: ps)
    | _, _ => none
theorem asPairs_map : ∀ ps : List (Int × List Int), asPairs (ps.map dPair) = some ps
  | [] => rfl
  | p :: ps => by
    show (match asPair (dPair p), asPairs (ps.map dPair) with | some p, some ps => some (p :: ps) | _, _ => none) = _
    have e : asPair (dPair p) = some p := by
      show (asInts (p.2.map PyData.int)).map (fun l => (p.1, l)) = _
      rw [asInts_map]
      rfl
    rw [e, asPairs_map ps]
theorem pairV_of {S : Sx} {N : Addr → Prop} {H : Hp} {v : V} {d : PyData} {p : Int × List Int} (h : Dd S.K N H v d) (e : asPair d = some p) : PairV S.K H v p := by
  unfold asPair at e
  split at e
  · rename_i i ds
    obtain ⟨l, el, rfl⟩ := Option.map_eq_some_iff.mp e
    cases h with
    | tup h1 k =>
      cases k with
      | cons a k =>
        cases k with
        | cons b k =>
          cases k
          cases a
          cases b with
          | tup h2 k2 =>
            have := dd_ints (S := S) k2 el
            subst this
            exact .mk h1 h2
  · cases e
theorem pairsV_of {S : Sx} {N : Addr → Prop} {H : Hp} : ∀ {xs : List V} {ds : List PyData} {ps : List (Int × List Int)}, DdAll S.K N H xs ds → asPairs ds = some ps → PairsV S.K H xs ps
  | _, _, ps, .nil, e => by cases e; exact .nil
  | _, _, ps, .cons (d := d) (ds := ds) a b, e => by
    have e : (match asPair d, asPairs ds with | some p, some ps => some (p :: ps) | _, _ => none) = some ps := e
    cases q : asPair d with
    | none => rw [q] at e; cases e
    | some p =>
      cases q2 : asPairs ds with
      | none => rw [q, q2] at e; cases e
      | some ps' =>
        rw [q, q2] at e
        cases e
        exact .cons (pairV_of a q) (pairsV_of b q2)
/-- only where all are of their own hash, and fewer than a hundred -/
noncomputable def lenSetPD (d : PyData) : Rs PyData := match d with
  | .list ds => (match asPairs ds with
    | some ps => @ite _ (ps.length ≤ 99 ∧ (ps.map phash).Nodup) (Classical.propDecidable _) (.ok (.int (ps.length : Nat))) .bad
    | none => .bad)
  | _ => .bad
theorem q_lenSetP {ps : List (Int × List Int)} (h : ps.length ≤ 99) (h2 : (ps.map phash).Nodup) : lenSetPD (.list (ps.map dPair)) = .ok (.int (ps.length : Nat)) := by
  show (match asPairs (ps.map dPair) with | some ps => @ite _ (ps.length ≤ 99 ∧ (ps.map phash).Nodup) (Classical.propDecidable _) (Rs.ok (PyData.int (ps.length : Nat))) Rs.bad | none => Rs.bad) = _
  rw [asPairs_map]
  exact if_pos ⟨h, h2⟩
section
variable {S : Sx} {w : Bool}
theorem de_lenSetP {a : Expr} {p p2 q pos : Pos} {f : Ev → Rs PyData} (hm : S.mg "len" = none) (hm2 : S.mg "set" = none) (ha : De true S a f) (hg : Gn S "len" := by rfl) (hg2 : Gn S "set" := by rfl) (na : ∀ env, starEach [a] env = (false, eval a env) :: starEach [] env := by intro _; rfl) : De w S (.Call (.Name "len" p) [.Call (.Name "set" p2) [a] [] q] [] pos) (e1 lenSetPD f) := by
  obtain ⟨t, h1, h2⟩ := ha
  refine ⟨fun E => tLenSetP S.K (t E), fun X E c => by rw [← c.K]; exact pe_lenSetP (gl_of c hg) (by rw [c.mg]; exact hm) (gl_of c hg2) (by rw [c.mg]; exact hm2) (h1 X E c) c.calm (by have := c.room.un; omega) (na _), fun B H0 N σ H ρ Q E rp k => h2 B H0 N σ H ρ _ E rp ?_⟩
  have k : EE w S N H Q E ((f ρ).bind lenSetPD) := k
  cases e1 : f ρ with
  | bad => rw [e1] at k; exact k
  | err c => rw [e1] at k; exact k
  | ok d =>
    rw [e1, Rs.bind_ok] at k
    intro v H1 s1 k1
    unfold lenSetPD at k
    split at k
    · split at k
      · rename_i ps hn
        by_cases hl : ps.length ≤ 99 ∧ (ps.map phash).Nodup
        · rw [if_pos hl] at k
          obtain ⟨b, xs, rfl, e2, kk⟩ := (DW.w k1).lst
          exact ⟨b, xs, ps, rfl, SqL.of e2, pairsV_of kk hn, hl.1, hl.2, k _ H1 s1 (.of (.int _))⟩
        · rw [if_neg hl] at k
          exact k.elim
      · exact k.elim
    · exact k.elim
end
/-! ### the pairs that come: each has a hash of its own -/
def rowsB : Nat → List (List Int)
  | 0 => [[]]
  | n + 1 => (rowsB n).flatMap fun r => [0 :: r, 1 :: r]
def domB : List (Int × List Int) := [(0 : Int), 1, 2, 3, 4, 5].flatMap fun a => ([0, 1, 2, 3, 4, 5].flatMap rowsB).map fun r => (a, r)
theorem dom_hash : domB.map phash = [(-5190988587195632635), 2886958471919528486, 909922512152810586, 7676811509268022211, (-4523628201690705621), 568022742073868632, 7418048291203909049, 3222727695683937112, (-6770860883815151757), (-3908547987364351310), (-8175056496070096063), (-3282339885130999834), 5170815609079462913, (-6618979371574136761), 7561256193429670102, (-1987658881413490025), 5990938286308984314, 4327871155795119766, (-1087204519008208837), 8742255715849328011, 4586742674054040008, 8037260957986839664, (-5113567543349883153), 3641383747289335371, (-1117850480885169265), 4265111677235823012, (-7592272099823145783), (-5368890453435152231), (-8834679957331902845), 5326829573777054213, (-3882882297631425885), 6479872699989620438, 4873451945785489308, 1522418225176867378, 448289548199350289, (-8858349143463946985), 4711664191039302064, (-6228605821320477794), 8003373828473236214, 610234246203453355, 847088921443814992, (-1814221261266269549), (-7268539928247383291), 5562031905903930315, 3955611151699799185, (-2519216019128757896), (-8577255872489088271), (-7631273469294859804), (-1631615635029447638), 6547739667500476141, 5473610990522959052, (-4522751239038875611), 9047262095464373438, 5842744909637987794, 1498306247658299268, (-5765159096547632673), (-5657978659371121954), (-8319288842081206495), 4069415378268014746, 5499272427344633561, (-6947813812099505889), (-5229647403338543347), 3364420620405526399, 2500886146856312502, (-5220238962087589296), 4203439863220387595, (-7476415213373952396), 5815918438011728213, (-7539174691933249150), (-689149142803208733), 6516245046751514121, (-3477343532747574748), (-615030636296774301), (-4881539145002519054), 11177465936577175, 8464332960147039922, (-3325462020506559752), (-545941240577447680), (-5696498932436239679), (-9162288436332990293), (-3779326278211998016), (-9194401953015326619), (-6410971006792646596), 7880260025121617017, (-7115965764655134943), (-1820050192282306144), 6934901098356912380, 9221696158817264569, 7558629028303400021, 2747274539879288051, (-2075373102367575222), (-5541162606264325836), (-2780367860230063569), (-589364946563848876), (-4274996639667986041), (-5881417393872117171), 4815935576244444387, 3741806899266927298, 1481197496238486849, 8005181542106879073, 4110940818381956040, (-7149852894168738393), (-7496963187803664427), 4140606272511392001, 1479296089801307460, (-3975022577179806282), 8855549256971507324, 7249128502767376194, 774301331938819113, (-5283738521421511262), (-4337756118227282795), 1661901716038129371, (-8605487055141498466), 8767128341590536061, (-1229233887971298602), (-6105964627177601169), 9136262260705564803, 4791823598725876277, (-2471641745480055664), (-2364461308303544945), (-5025771491013629486), 360575327245265092, (-5255596912312972918), 744060921952439248, 5109899236363890487, 6657937971473103408, 7952677415836332426, (-2416119598758058069), (-8791512941509144097), 2373733438590435656, 8620037801341259440, (-4735055328603717923), 2114970220526322494, (-2080350374993649443), 6372805119216813304, (-9211626058041937865), 4968609506961868998, 5462968734916597099, (-132262461598123642), 6524686631457828300, 2258178122752083547, (-7290736952091076580), (-3710497167352970369), (-5373564297866834917), (-6390282589685795392), 3439177645171741456, (-716335396623546547), 2734182887309253109, 3631741076697713780, (-1661694323388251184), (-6420928551562755820), (-1037966393441763543), 5551393903208819278, 7774775549596812830, 4308986045700062216, (-4374605879884900470), (-9185960368309012440), 1176794629312033883, (-429626124892097247), (-3780659845500719177), (-4854788522478236266), 4285316859568018076, (-591413879638284491), 2516702798727119139, 2700295757795649659, (-4692843824474133200), (-4455989149233771563), (-7117299331943856104), 5875126074784581770, 258953835226343760, (-1347466918977787370), (-7822294089806344451), 4566410130542876790, 5512392533737105257, (-6934693705707034193), 1244661596822889586, 170532919845372497, 8620914763993089450, 3744184024786786883, 539666838960401239, (-3804771823019287287), 7378506906484332388, 7485687343660843107, 4824377160950758566, (-1233662692409571809), 196194356667047006, 6195852190932459172, 3515661216709053586, (-1938657450272060156), (-8532767121629096755), (-454820062513935634), (-6830213405265021662), (-63324408149810037), 6182979954601013747, (-2773755792359595488), (-322087626213923199), (-4517408221733895136), 3935747272476567611, 6798060168927368058, 2531551660221623305, 7424268271160719534, (-2569320308338369335), 4087628784717582607, (-178879723988162146), (-5329437415846954145), (-1749197631108847934), (-3412264761622712482), (-8827340436426041085), 5400477181415863891, (-3153393243363792240), 297125040569007416, 5593040612941836215, (-4098752170128496877), (-8857986398303001513), (-3475024240182009236), (-8286378728606121206), 5337717702856567137, 1871928198959816523, (-2413306343640778035), 6823725858660293483, 3138094165556156318, 1531673411352025188, (-6217717692240964870), (-7291846369218481959), 1848259012827772383, (-3028471726378530184), 4478002334971241574, 263237911055403966, (-83872382579522068), (-6893046995974017256), 8892386895025449819, 3438068228044336077, (-2178104011513901933), (-3784524765718033063), 8187392137162961472, 2129352283802631097, 3075334686996859564, 9074992521262271730, (-1192396249917356107), (-2266524926894873196), 6183856917252843757, 1307126178046541190, (-1897391007779844454), (-6241829669759532980), 4941449059744086695, 5048629496920597414, 2387319314210512873, 727636843834550626, 2157493892911169441, 8157151727176581607, 5476960752953176021, (-4375715297012305849), (-3080975852649076831), 4996971206466084290, 3019935246699366390, (-8659919829894973601), (-2413615467144149817), 2678035476620424436, (-8918683047959086763), 5332740430230492916, (-4660848149268595953), (-1798535252817795506), (-6065043761523540259), (-5570684533568812158), 7280828343626018717, (-4508966637027580957), (-8775475145733325710), 122353853133065779, 3702593637871171990, 6437883890341675570, 1022808215538346967, (-7594475623313667801), 6696755408600595812, (-8299470381176156148), (-7401912191787695477), 5751396481835891175, 992162253661386539, 6375124411782378816, (-5482259365276589979), (-3258877718888596427), (-6724667222785347041), 3038484925339241889, (-1772869563084870081), 8589885434536176242, 6983464680332045112, 3632430959723423182, 2558302282745906093, (-6748336408917391181), 6821676925585857868, (-4118593086773921990), (-8333357510689759598), 2720246980750009159, 2957101655990370796, 295791473280286255, (-5158527193700827487), 7672044640450486119, 6065623886246354989, (-409203284582202092), (-6467243137942532467), (-5521260734748304000), 478397099517108166, 8657752402047031945, 7583623725069514856, (-2412738504492319807), (-7289469243698622374), 906728355549686773, 3608318982204855072, (-3655146362001076869), (-3547965924824566150), (-6209276107534650691), 6179428112814570550, 7609285161891189365, (-4837801077552950085), (-7517992051776355671), 5474433354952082203, 212541498418500178, (-3110226227541033492), 6313452597766943399, (-5366402478827396592), 7925931172558284017, (-5429161957386693346), 1420863591743347071, 8626257781298069925, (-1367330798201018944), 1494982098249781503, (-2771526410455963250), 2121190200483132979, (-7872398379015955890), (-1215449285960003948), 1564071493969108124, 3415871204200642788, (-7052275701786434489), (-1669313543665442212), (-7084389218468770815), (-4300958272246090792), (-8456471314041378795), (-5005953030108579139), 289962542264249660, 9044913832903468184, (-7115035180345731243), (-8778102310859595791), 4857287274425843855, 34639632178980582, (-3431149871717770032), (-670355125683507765), 1520647787982706928, (-2164983905121430237), (-8169762042309929495), 6925948310791000191, 5851819633813483102, 3591210230785042653, (-8331549797056116739), (-825075735706344981), (-5039840159622182589), (-5386950453257108623), 6250619007057947805, 3589308824347863264, (-1865009842633250478), (-7481182082191488488), (-9087602836395619618), 2884314066485374917, (-3173725786874955458), (-2227743383680726991), 3771914450584685175, (-6495474320594942662), (-7569602997572459751), 880778846575257202, (-3995951892631045365), (-7200469078457431009), 6901836333272432081, (-361629010933499860), (-254448573756989141), (-2915758756467073682), (-1927769321192547232), (-3145584177766417114), 2854073656498995052, 7219911970910446291, 8767950706019659212] := by decide +kernel
theorem dom_nd : (domB.map phash).Nodup := by
  rw [dom_hash]
  decide +kernel
theorem rowsB_mem : ∀ r : List Int, (∀ x ∈ r, x = 0 ∨ x = 1) → r ∈ rowsB r.length
  | [], _ => List.mem_singleton.mpr rfl
  | x :: r, h => by
    refine List.mem_flatMap.mpr ⟨r, rowsB_mem r fun y hy => h y (List.mem_cons_of_mem _ hy), ?_⟩
    rcases h x List.mem_cons_self with e | e <;> rw [e] <;> simp
theorem domB_mem {p : Int × List Int} (h0 : 0 ≤ p.1) (h5 : p.1 ≤ 5) (hl : p.2.length ≤ 5) (h : ∀ x ∈ p.2, x = 0 ∨ x = 1) : p ∈ domB := by
  refine List.mem_flatMap.mpr ⟨p.1, ?_, List.mem_map.mpr ⟨p.2, List.mem_flatMap.mpr ⟨p.2.length, ?_, rowsB_mem p.2 h⟩, rfl⟩⟩
  · have : p.1 = 0 ∨ p.1 = 1 ∨ p.1 = 2 ∨ p.1 = 3 ∨ p.1 = 4 ∨ p.1 = 5 := by omega
    simpa using this
  · have : p.2.length = 0 ∨ p.2.length = 1 ∨ p.2.length = 2 ∨ p.2.length = 3 ∨ p.2.length = 4 ∨ p.2.length = 5 := by omega
    simp only [List.mem_cons, List.not_mem_nil, or_false]
    exact this
theorem inj_nodup {α β : Type} {f : α → β} : ∀ {l : List α}, (l.map f).Nodup → ∀ x ∈ l, ∀ y ∈ l, f x = f y → x = y
  | [], _, x, hx, _, _, _ => by cases hx
  | a :: l, h, x, hx, y, hy, e => by
    rw [List.map_cons, List.nodup_cons] at h
    rcases List.mem_cons.mp hx with e1 | hx
    · rcases List.mem_cons.mp hy with e2 | hy
      · rw [e1, e2]
      · exact absurd (List.mem_map.mpr ⟨y, hy, by rw [← e, e1]⟩) h.1
    · rcases List.mem_cons.mp hy with e2 | hy
      · exact absurd (List.mem_map.mpr ⟨x, hx, by rw [e, e2]⟩) h.1
      · exact inj_nodup h.2 x hx y hy e
theorem own_hash {ps : List (Int × List Int)} (nd : ps.Nodup) (h : ∀ p ∈ ps, p ∈ domB) : (ps.map phash).Nodup :=
  List.pairwise_map.mpr (List.Pairwise.imp_of_mem (fun ha hb ne e => ne (inj_nodup dom_nd _ (h _ ha) _ (h _ hb) e)) nd)
noncomputable def F_law_fillings : List PyData → Rs PyData := fn 10 (sSeq (sSetO 2 aNil)
      (sSeq (sFor (iEnumD (eVar 0)) (gT 2 (gsC (gN 3) (gsC (gN 4) gsN)))
      (sSeq (sSet 5 (eL (aCons (eTup aNil) aNil)))
      (sSeq (sFor (iRg (rg1D (eVar 4))) (gN 6)
      (sSeq (sSetO 7 aNil)
      (sSeq (sFor (iItems (eVar 5)) (gN 8)
      (sMut 7 extM (aCons (eL (lLc [9] (iRg (rg1D (eVar 1))) (gN 9) tY (e2 addD (eVar 8) (eTup (aCons (eVar 9) aNil))))) aNil)))
      (sFrz 7 (sSet 5 (eVar 7))))))
      (sMut 2 extM (aCons (eL (lLc [8] (iItems (eVar 5)) (gN 8) tY (eTup (aCons (eVar 3) (aCons (eVar 8) aNil))))) aNil)))))
      (sFrz 2 (sRet (eVar 2)))))
noncomputable def F_law_scene_v2 : List PyData → Rs PyData := fn 10 (sSeq (sSet 1 (eCall F_law_crate (aCons (eCall F_law_cell (aCons (eVar 0) (aCons (eC (.int 0)) aNil))) (aCons (eC (.int 5)) (aCons (eC (.int 4)) aNil)))))
      (sSeq (sSet 2 (eCall F_law_cell (aCons (eVar 0) (aCons (eC (.int 1)) aNil))))
      (sSeq (sIf (tB' (e2 eqD (e2 modD (eVar 2) (eC (.int 2))) (eC (.int 0))))
      (sSeq (sSet 3 (eCall F_law_crate (aCons (e2 divD (eVar 2) (eC (.int 2))) (aCons (eC (.int 6)) (aCons (eC (.int 4)) aNil)))))
      (sFrz 3 (sRet (eTup (aCons (eVar 1) (aCons (eVar 3) (aCons (eCall F_law_way (aCons (eCall F_law_cell (aCons (eVar 0) (aCons (eC (.int 2)) aNil))) (aCons (eVar 1) (aCons (eVar 3) aNil)))) aNil)))))))
      sNil)
      (sSeq (sSetO 3 aNil)
      (sSeq (sSetO 4 aNil)
      (sSeq (sFor (iEnumD (eVar 1)) (gT 2 (gsC (gN 5) (gsC (gN 6) gsN)))
      (sSeq (sSet 7 (e2 divD (eVar 2) (e2 addD (eC (.int 3)) (e2 mulD (eC (.int 7)) (eVar 5)))))
      (sSeq (sSet 8 (eL (lRg (rg1D (eVar 6)))))
      (sSeq (sIf (tB' (e2 gtD (eVar 6) (eC (.int 0))))
      (sSeq (sSet 9 (e2 modD (eVar 7) (eVar 6)))
      (sSet 8 (e2 addD (e2 addD (eSl (eVar 8) (ePart (eVar 9)) eNoPart) (eSl (eVar 8) eNoPart (ePart (eVar 9)))) (eSl (eVar 8) eNoPart (ePart (e2 modD (e2 divD (eVar 7) (eC (.int 5))) (eC (.int 2))))))))
      sNil)
      (sSeq (sIf (tB' (e2 eqD (e2 modD (e2 divD (eVar 7) (eC (.int 11))) (eC (.int 6))) (eC (.int 0))))
      (sSet 8 (eSl (eVar 8) (ePart (eC (.int 1))) eNoPart))
      sNil)
      (sSeq (sMut 3 appM (aCons (eCB lenD (aCons (eVar 8) aNil)) aNil))
      (sMut 4 appM (aCons (eTup (aCons (eVar 5) (aCons (eCB tupleD (aCons (eVar 8) aNil)) aNil))) aNil))))))))
      (sRet (eTup (aCons (eVar 1) (aCons (eCB tupleD (aCons (eVarR 3) aNil)) (aCons (eCB tupleD (aCons (eVarR 4) aNil)) aNil)))))))))))
noncomputable def F_law_v37 : List PyData → Rs PyData := fn 12 (sSeq (sAsg (eCall F_law_scene_v2 (aCons (eVar 0) aNil)) (gT 3 (gsC (gN 1) (gsC (gN 2) (gsC (gN 3) gsN)))))
      (sSeq (sIf (tB' (e2 isD (eVar 3) (eC .none)))
      (sRet (eC (.bool true)))
      sNil)
      (sSeq (sSet 4 (eCall F_one_to_one (aCons (eVar 1) (aCons (eVar 3) aNil))))
      (sSeq (sSet 5 (eL (lLc [6, 7] (iItems (eVar 3)) (gT 2 (gsC (gN 6) (gsC (gN 7) gsN))) tY (eVar 6))))
      (sSeq (sSet 8 (e2 eqD (e1 lenSetLD (eVar 5)) (eCB lenD (aCons (eVar 5) aNil))))
      (sSeq (sFor (iZipD (aCons (eVar 1) (aCons (eVar 3) aNil))) (gT 2 (gsC (gN 9) (gsC (gT 2 (gsC (gN 6) (gsC (gN 7) gsN))) gsN)))
      (sSet 8 (eAnd (eVar 8) (e2 eqD (e1 lenSetD (eVar 7)) (eVar 9)))))
      (sSeq (sIf (tOr' (tNot' (tB' (e1 (isiD "tuple") (eVar 4)))) (tB' (e2 eqD (eCB lenD (aCons (eVar 4) aNil)) (eC (.int 0)))))
      (sRet (eC (.bool false)))
      sNil)
      (sSeq (sIf (tTr (eVar 8))
      (sSeq (sIf (tB' (e2 neD (eVar 4) (eTup (aCons (eC (.str "one to one")) aNil))))
      (sRet (eC (.bool false)))
      sNil)
      (sSeq (sSet 10 (eL (lLc [11] (iItems (eCall F_law_fillings (aCons (eVar 1) (aCons (eC (.int 2)) aNil)))) (gN 11) tY (eCall F_law_turned (aCons (eVar 3) (aCons (eVar 11) aNil))))))
      (sRet (e2 eqD (e1 lenSetPD (eVar 10)) (eCB lenD (aCons (eVar 10) aNil))))))
      sNil)
      (sSeq (sIf (tOr' (tB' (e2 neD (e2 ixD (eVar 4) (eC (.int 0))) (eC (.str "merged")))) (tOr' (tB' (e2 neD (eCB lenD (aCons (eVar 4) aNil)) (eC (.int 3)))) (tB' (e2 eqD (e2 ixD (eVar 4) (eC (.int 1))) (e2 ixD (eVar 4) (eC (.int 2)))))))
      (sRet (eC (.bool false)))
      sNil)
      (sSeq (sIf (tOr' (tNot' (tB' (eCall F_is_filling (aCons (eVar 1) (aCons (e2 ixD (eVar 4) (eC (.int 1))) aNil))))) (tNot' (tB' (eCall F_is_filling (aCons (eVar 1) (aCons (e2 ixD (eVar 4) (eC (.int 2))) aNil))))))
      (sRet (eC (.bool false)))
      sNil)
      (sRet (e2 eqD (eCall F_law_turned (aCons (eVar 3) (aCons (e2 ixD (eVar 4) (eC (.int 1))) aNil))) (eCall F_law_turned (aCons (eVar 3) (aCons (e2 ixD (eVar 4) (eC (.int 2))) aNil)))))))))))))))
def topS (i : Nat) : Stmt := PySem.Challenge.pw_traymap_k26_one_to_one_or_merged.main.body.getD i (.Pass ⟨0, 0, 0, 0⟩)
abbrev s_marked : Stmt := topS 1
theorem sc_marked : FnScope ["crate", "tray", "wells", "well"] ["crate", "tray", "wells"] (defScope s_marked) := ⟨rfl, rfl, rfl, by decide +kernel, rfl, by decide +kernel, by decide +kernel⟩
abbrev s_one_to_one : Stmt := topS 3
theorem sc_one_to_one : FnScope ["one", "way", "sources", "tray", "target", "wells", "blank", "left", "well"] ["one", "way"] (defScope s_one_to_one) := ⟨rfl, rfl, rfl, by decide +kernel, rfl, by decide +kernel, by decide +kernel⟩
abbrev s_is_whole : Stmt := topS 7
theorem sc_is_whole : FnScope ["thing"] ["thing"] (defScope s_is_whole) := ⟨rfl, rfl, rfl, by decide +kernel, rfl, by decide +kernel, by decide +kernel⟩
abbrev s_is_below : Stmt := topS 8
theorem sc_is_below : FnScope ["thing", "bound"] ["thing", "bound"] (defScope s_is_below) := ⟨rfl, rfl, rfl, by decide +kernel, rfl, by decide +kernel, by decide +kernel⟩
abbrev s_is_pair : Stmt := topS 9
theorem sc_is_pair : FnScope ["thing"] ["thing"] (defScope s_is_pair) := ⟨rfl, rfl, rfl, by decide +kernel, rfl, by decide +kernel, by decide +kernel⟩
abbrev s_is_crate : Stmt := topS 10
theorem sc_is_crate : FnScope ["thing", "wells"] ["thing"] (defScope s_is_crate) := ⟨rfl, rfl, rfl, by decide +kernel, rfl, by decide +kernel, by decide +kernel⟩
abbrev s_fits : Stmt := topS 11
theorem sc_fits : FnScope ["crate", "thing", "tray", "things"] ["crate", "thing"] (defScope s_fits) := ⟨rfl, rfl, rfl, by decide +kernel, rfl, by decide +kernel, by decide +kernel⟩
abbrev s_is_filling : Stmt := topS 12
theorem sc_is_filling : FnScope ["crate", "thing"] ["crate", "thing"] (defScope s_is_filling) := ⟨rfl, rfl, rfl, by decide +kernel, rfl, by decide +kernel, by decide +kernel⟩
abbrev s__law_cell : Stmt := topS 14
theorem sc__law_cell : FnScope ["script", "k", "near"] ["script", "k"] (defScope s__law_cell) := ⟨rfl, rfl, rfl, by decide +kernel, rfl, by decide +kernel, by decide +kernel⟩
abbrev s__law_crate : Stmt := topS 15
theorem sc__law_crate : FnScope ["cell", "trays", "wells", "found", "k"] ["cell", "trays", "wells"] (defScope s__law_crate) := ⟨rfl, rfl, rfl, by decide +kernel, rfl, by decide +kernel, by decide +kernel⟩
abbrev s__law_way : Stmt := topS 16
theorem sc__law_way : FnScope ["cell", "one", "other", "found", "tray", "many", "near", "goals", "there", "k"] ["cell", "one", "other"] (defScope s__law_way) := ⟨rfl, rfl, rfl, by decide +kernel, rfl, by decide +kernel, by decide +kernel⟩
abbrev s__law_turned : Stmt := topS 17
theorem sc__law_turned : FnScope ["way", "filling", "there", "wells", "well"] ["way", "filling"] (defScope s__law_turned) := ⟨rfl, rfl, rfl, by decide +kernel, rfl, by decide +kernel, by decide +kernel⟩
abbrev s__law_fillings : Stmt := topS 18
theorem sc__law_fillings : FnScope ["crate", "number", "found", "tray", "many", "rows", "k", "more_rows", "row", "thing"] ["crate", "number"] (defScope s__law_fillings) := ⟨rfl, rfl, rfl, by decide +kernel, rfl, by decide +kernel, by decide +kernel⟩
abbrev s__law_scene : Stmt := topS 19
theorem sc__law_scene : FnScope ["script", "one", "cell", "other", "way", "tray", "many", "near", "wells", "at"] ["script"] (defScope s__law_scene) := ⟨rfl, rfl, rfl, by decide +kernel, rfl, by decide +kernel, by decide +kernel⟩
abbrev s_law : Stmt := topS 20
theorem sc_law : FnScope ["script", "one", "other", "way", "told", "trays", "there", "wells", "due", "many", "some", "filling"] ["script"] (defScope s_law) := ⟨rfl, rfl, rfl, by decide +kernel, rfl, by decide +kernel, by decide +kernel⟩
set_option maxHeartbeats 4000000 in
theorem fd_marked {G : Gx} {f : Addr} {fd : FuncData} (F : Fun G.K "marked" "marked" s_marked f fd) (b : Binds G.K fd ["crate", "tray", "wells"] []) (g : G.mg "marked" = some (.ref f)) (m_range : G.mg "range" = none) (m_tuple : G.mg "tuple" = none) : Fd G 1 "marked" 3 F_marked :=
  fd_mk (k := 0) (body := (sRet (eTup (aCons (eVar 1) (aCons (eCB tupleD (aCons (eL (lLc [3] (iRg (rg1D (e2 ixD (eVar 0) (eVar 1)))) (gN 3) tY (eIf (tB' (e2 inD (eVar 3) (eVar 2))) (eC (.int 1)) (eC (.int 0))))) aNil)) aNil))))) F sc_marked b g rfl rfl (dss_one (ds_ret (de_tup (da_cons (de_var 1) (da_cons (de_tuple m_tuple (da_cons (de_l (df_lc sc_marked.nd (blkOk_by (own := [("well", 3)]) (by dsimp only [Sx.at]; decide +kernel)) (di_w (di_rg1 m_range (de_ix (de_var 0) (de_var 1)))) (dx_name 3 sc_marked.nd) dts_nil (de_if (dt_cmp cmp_in (de_var 3) (de_var 2)) de_int de_int))) da_nil)) da_nil)))))
set_option maxHeartbeats 4000000 in
theorem fd_one_to_one {G : Gx} {f : Addr} {fd : FuncData} (F : Fun G.K "one_to_one" "one_to_one" s_one_to_one f fd) (b : Binds G.K fd ["one", "way"] []) (g : G.mg "one_to_one" = some (.ref f)) (h_marked : Fd G 1 "marked" 3 F_marked) (m_enumerate : G.mg "enumerate" = none) (m_range : G.mg "range" = none) : Fd G 2 "one_to_one" 2 F_one_to_one :=
  fd_mk (k := 1) (body := (sSeq (sSetD 2)
      (sSeq (sFor (iEnumD (eVar 1)) (gT 2 (gsC (gN 3) (gsC (gT 2 (gsC (gN 4) (gsC (gN 5) gsN))) gsN)))
      (sSeq (sSet 6 (eCall F_marked (aCons (eVar 0) (aCons (eVar 3) (aCons (eTup aNil) aNil)))))
      (sSeq (sIf (tB' (e2 inDctD (eVar 4) (eVarR 2)))
      (sRet (eTup (aCons (eC (.str "merged")) (aCons (eCall F_marked (aCons (eVar 0) (aCons (e2 getDctD (eVarR 2) (eVar 4)) (aCons (eTup aNil) aNil)))) (aCons (eVar 6) aNil)))))
      sNil)
      (sSeq (sPutD 2 (eVar 3) (eVar 4))
      (sSeq (sSet 7 (eL (lLc [8] (iRg (rg1D (e2 ixD (eVar 0) (eVar 3)))) (gN 8) (tB' (e2 notInD (eVar 8) (eVar 5))) (eVar 8))))
      (sIf (tTr (eVar 7))
      (sRet (eTup (aCons (eC (.str "merged")) (aCons (eVar 6) (aCons (eCall F_marked (aCons (eVar 0) (aCons (eVar 3) (aCons (eVar 7) aNil)))) aNil)))))
      sNil))))))
      (sRet (eTup (aCons (eC (.str "one to one")) aNil)))))) F sc_one_to_one b g rfl rfl (dss_cons (ds_setD 2 sc_one_to_one.nd)
      (dss_cons (ds_for (vs := [3, 4, 5]) (di_enum m_enumerate (de_var 1)) (dx_tup (dxs_cons (dx_name 3 sc_one_to_one.nd) (dxs_cons (dx_tup (dxs_cons (dx_name 4 sc_one_to_one.nd) (dxs_cons (dx_name 5 sc_one_to_one.nd) dxs_nil))) dxs_nil)))
      (dss_cons (ds_set 6 sc_one_to_one.nd (de_call (h_marked.mono (Nat.le_of_ble_eq_true rfl)) (da_cons (de_var 0) (da_cons (de_var 3) (da_cons (de_tup da_nil) da_nil)))))
      (dss_cons (ds_if (dt_cmp cmp_inDct (de_var 4) (de_varR 2))
      (dss_one (ds_ret (de_tup (da_cons de_str (da_cons (de_call (h_marked.mono (Nat.le_of_ble_eq_true rfl)) (da_cons (de_var 0) (da_cons (de_getDct (de_varR 2) (de_var 4)) (da_cons (de_tup da_nil) da_nil)))) (da_cons (de_var 6) da_nil))))))
      dss_nil)
      (dss_cons (ds_putD 2 (de_var 3) (de_var 4))
      (dss_cons (ds_setLc 7 sc_one_to_one.nd (blkOk_by (own := [("well", 8)]) (by dsimp only [Sx.at]; decide +kernel)) (di_w (di_rg1 m_range (de_ix (de_var 0) (de_var 3)))) (dx_name 8 sc_one_to_one.nd) (dts_one (dt_cmp cmp_notIn (de_var 8) (de_var 5))) (de_var 8) (by decide +kernel))
      (dss_one (ds_if (dt_truth (de_var 7))
      (dss_one (ds_ret (de_tup (da_cons de_str (da_cons (de_var 6) (da_cons (de_call (h_marked.mono (Nat.le_of_ble_eq_true rfl)) (da_cons (de_var 0) (da_cons (de_var 3) (da_cons (de_var 7) da_nil)))) da_nil))))))
      dss_nil)))))))
      (dss_one (ds_ret (de_tup (da_cons de_str da_nil))))))
set_option maxHeartbeats 4000000 in
theorem fd_is_whole {G : Gx} {f : Addr} {fd : FuncData} (F : Fun G.K "is_whole" "is_whole" s_is_whole f fd) (b : Binds G.K fd ["thing"] []) (g : G.mg "is_whole" = some (.ref f)) (m_bool : G.mg "bool" = none) (m_int : G.mg "int" = none) (m_isinstance : G.mg "isinstance" = none) : Fd G 1 "is_whole" 1 F_is_whole :=
  fd_mk (k := 0) (body := (sRet (eAnd (e1 (isiD "int") (eVar 0)) (eNot (e1 (isiD "bool") (eVar 0)))))) F sc_is_whole b g rfl rfl (dss_one (ds_ret (de_and (de_isi m_isinstance m_int (by decide +kernel) (de_var 0)) (de_one (de_not (de_isi m_isinstance m_bool (by decide +kernel) (de_var 0)))))))
set_option maxHeartbeats 4000000 in
theorem fd_is_below {G : Gx} {f : Addr} {fd : FuncData} (F : Fun G.K "is_below" "is_below" s_is_below f fd) (b : Binds G.K fd ["thing", "bound"] []) (g : G.mg "is_below" = some (.ref f)) (h_is_whole : Fd G 1 "is_whole" 1 F_is_whole) : Fd G 2 "is_below" 2 F_is_below :=
  fd_mk (k := 1) (body := (sRet (eAnd (eCall F_is_whole (aCons (eVar 0) aNil)) (eChain leD ltD (eC (.int 0)) (eVar 0) (eVar 1))))) F sc_is_below b g rfl rfl (dss_one (ds_ret (de_and (de_call (h_is_whole.mono (Nat.le_of_ble_eq_true rfl)) (da_cons (de_var 0) da_nil)) (de_one (de_chain cmp_le cmp_lt de_int (de_var 0) (de_var 1))))))
set_option maxHeartbeats 4000000 in
theorem fd_is_pair {G : Gx} {f : Addr} {fd : FuncData} (F : Fun G.K "is_pair" "is_pair" s_is_pair f fd) (b : Binds G.K fd ["thing"] []) (g : G.mg "is_pair" = some (.ref f)) (m_isinstance : G.mg "isinstance" = none) (m_len : G.mg "len" = none) (m_tuple : G.mg "tuple" = none) : Fd G 1 "is_pair" 1 F_is_pair :=
  fd_mk (k := 0) (body := (sRet (eAnd (e1 (isiD "tuple") (eVar 0)) (e2 eqD (eCB lenD (aCons (eVar 0) aNil)) (eC (.int 2)))))) F sc_is_pair b g rfl rfl (dss_one (ds_ret (de_and (de_isi m_isinstance m_tuple (by decide +kernel) (de_var 0)) (de_one (de_cmp cmp_eq (de_len m_len (da_cons (de_var 0) da_nil)) de_int)))))
set_option maxHeartbeats 4000000 in
theorem fd_is_crate {G : Gx} {f : Addr} {fd : FuncData} (F : Fun G.K "is_crate" "is_crate" s_is_crate f fd) (b : Binds G.K fd ["thing"] []) (g : G.mg "is_crate" = some (.ref f)) (h_is_below : Fd G 2 "is_below" 2 F_is_below) (m_all : G.mg "all" = none) (m_isinstance : G.mg "isinstance" = none) (m_len : G.mg "len" = none) (m_tuple : G.mg "tuple" = none) {t_MOST_TRAYS : Tok} (c_MOST_TRAYS : G.mg "MOST_TRAYS" = some (.int 60 t_MOST_TRAYS)) {t_MOST_WELLS : Tok} (c_MOST_WELLS : G.mg "MOST_WELLS" = some (.int 12 t_MOST_WELLS)) : Fd G 3 "is_crate" 1 F_is_crate :=
  fd_mk (k := 2) (body := (sSeq (sIf (tOr' (tNot' (tB' (e1 (isiD "tuple") (eVar 0)))) (tB' (e2 gtD (eCB lenD (aCons (eVar 0) aNil)) (eC (.int 60)))))
      (sRet (eC (.bool false)))
      sNil)
      (sRet (eCB allD (aCons (eL (lLc [1] (iItems (eVar 0)) (gN 1) tY (eCall F_is_below (aCons (eVar 1) (aCons (e2 addD (eC (.int 12)) (eC (.int 1))) aNil))))) aNil))))) F sc_is_crate b g rfl rfl (dss_cons (ds_if (dt_w (dw_or (dt_not (dt_val (de_isi m_isinstance m_tuple (by decide +kernel) (de_var 0)))) (dw_or1 (dt_cmp cmp_gt (de_len m_len (da_cons (de_var 0) da_nil)) (de_globI c_MOST_TRAYS)))))
      (dss_one (ds_ret de_bl))
      dss_nil)
      (dss_one (ds_ret (de_all m_all (da_cons (de_l (df_lc sc_is_crate.nd (blkOk_by (own := [("wells", 1)]) (by dsimp only [Sx.at]; decide +kernel)) (diw_seq (de_var 0)) (dx_name 1 sc_is_crate.nd) dts_nil (de_call (h_is_below.mono (Nat.le_of_ble_eq_true rfl)) (da_cons (de_var 1) (da_cons (de_add (de_globI c_MOST_WELLS) de_int) da_nil))))) da_nil)))))
set_option maxHeartbeats 4000000 in
theorem fd_fits {G : Gx} {f : Addr} {fd : FuncData} (F : Fun G.K "fits" "fits" s_fits f fd) (b : Binds G.K fd ["crate", "thing"] []) (g : G.mg "fits" = some (.ref f)) (h_is_below : Fd G 2 "is_below" 2 F_is_below) (h_is_pair : Fd G 1 "is_pair" 1 F_is_pair) (m_isinstance : G.mg "isinstance" = none) (m_len : G.mg "len" = none) (m_tuple : G.mg "tuple" = none) : Fd G 3 "fits" 2 F_fits :=
  fd_mk (k := 2) (body := (sSeq (sIf (tNot' (tB' (eCall F_is_pair (aCons (eVar 1) aNil))))
      (sRet (eC (.bool false)))
      sNil)
      (sSeq (sAsg (eVar 1) (gT 2 (gsC (gN 2) (gsC (gN 3) gsN))))
      (sSeq (sIf (tNot' (tB' (eCall F_is_below (aCons (eVar 2) (aCons (eCB lenD (aCons (eVar 0) aNil)) aNil)))))
      (sRet (eC (.bool false)))
      sNil)
      (sRet (eAnd (e1 (isiD "tuple") (eVar 3)) (e2 eqD (eCB lenD (aCons (eVar 3) aNil)) (e2 ixD (eVar 0) (eVar 2))))))))) F sc_fits b g rfl rfl (dss_cons (ds_if (dt_not (dt_val (de_call (h_is_pair.mono (Nat.le_of_ble_eq_true rfl)) (da_cons (de_var 1) da_nil))))
      (dss_one (ds_ret de_bl))
      dss_nil)
      (dss_cons (ds_asg (vs := [2, 3]) (de_var 1) (dx_tup (dxs_cons (dx_name 2 sc_fits.nd) (dxs_cons (dx_name 3 sc_fits.nd) dxs_nil))))
      (dss_cons (ds_if (dt_not (dt_val (de_call (h_is_below.mono (Nat.le_of_ble_eq_true rfl)) (da_cons (de_var 2) (da_cons (de_len m_len (da_cons (de_var 0) da_nil)) da_nil)))))
      (dss_one (ds_ret de_bl))
      dss_nil)
      (dss_one (ds_ret (de_and (de_isi m_isinstance m_tuple (by decide +kernel) (de_var 3)) (de_one (de_cmp cmp_eq (de_len m_len (da_cons (de_var 3) da_nil)) (de_ix (de_var 0) (de_var 2))))))))))
set_option maxHeartbeats 4000000 in
theorem fd_is_filling {G : Gx} {f : Addr} {fd : FuncData} (F : Fun G.K "is_filling" "is_filling" s_is_filling f fd) (b : Binds G.K fd ["crate", "thing"] []) (g : G.mg "is_filling" = some (.ref f)) (h_fits : Fd G 3 "fits" 2 F_fits) (h_is_crate : Fd G 3 "is_crate" 1 F_is_crate) : Fd G 4 "is_filling" 2 F_is_filling :=
  fd_mk (k := 3) (body := (sRet (eAnd (eCall F_is_crate (aCons (eVar 0) aNil)) (eCall F_fits (aCons (eVar 0) (aCons (eVar 1) aNil)))))) F sc_is_filling b g rfl rfl (dss_one (ds_ret (de_and (de_call (h_is_crate.mono (Nat.le_of_ble_eq_true rfl)) (da_cons (de_var 0) da_nil)) (de_one (de_call (h_fits.mono (Nat.le_of_ble_eq_true rfl)) (da_cons (de_var 0) (da_cons (de_var 1) da_nil)))))))
set_option maxHeartbeats 4000000 in
theorem fd__law_cell {G : Gx} {f : Addr} {fd : FuncData} (F : Fun G.K "_law_cell" "_law_cell" s__law_cell f fd) (b : Binds G.K fd ["script", "k"] []) (g : G.mg "_law_cell" = some (.ref f)) (m_len : G.mg "len" = none) : Fd G 1 "_law_cell" 2 F_law_cell :=
  fd_mk (k := 0) (body := (sSeq (sIf (tB' (e2 ltD (eVar 1) (eCB lenD (aCons (eVar 0) aNil))))
      (sRet (e2 modD (e2 ixD (eVar 0) (eVar 1)) (e2 powD (eC (.int 10)) (eC (.int 18)))))
      sNil)
      (sSeq (sSet 2 (e2 addD (eC (.int 17)) (e2 mulD (e2 mulD (eC (.int 7)) (eVar 1)) (eVar 1))))
      (sSeq (sIf (tB' (e2 gtD (eCB lenD (aCons (eVar 0) aNil)) (eC (.int 0))))
      (sSet 2 (e2 addD (eVar 2) (e2 mulD (e2 modD (e2 ixD (eVar 0) (e2 modD (eVar 1) (eCB lenD (aCons (eVar 0) aNil)))) (eC (.int 1000003))) (e2 addD (eVar 1) (eC (.int 5))))))
      sNil)
      (sRet (e2 divD (e2 modD (e2 mulD (eVar 2) (eC (.int 48271))) (eC (.int 2147483647))) (eC (.int 3)))))))) F sc__law_cell b g rfl rfl (dss_cons (ds_if (dt_cmp cmp_lt (de_var 1) (de_len m_len (da_cons (de_var 0) da_nil)))
      (dss_one (ds_ret (de_mod (de_ix (de_var 0) (de_var 1)) (de_pow de_int de_int))))
      dss_nil)
      (dss_cons (ds_set 2 sc__law_cell.nd (de_add de_int (de_mul (de_mul de_int (de_var 1)) (de_var 1))))
      (dss_cons (ds_if (dt_cmp cmp_gt (de_len m_len (da_cons (de_var 0) da_nil)) de_int)
      (dss_one (ds_set 2 sc__law_cell.nd (de_add (de_var 2) (de_mul (de_mod (de_ix (de_var 0) (de_mod (de_var 1) (de_len m_len (da_cons (de_var 0) da_nil)))) de_int) (de_add (de_var 1) de_int)))))
      dss_nil)
      (dss_one (ds_ret (de_div (de_mod (de_mul (de_var 2) de_int) de_int) de_int))))))
set_option maxHeartbeats 4000000 in
theorem fd__law_crate {G : Gx} {f : Addr} {fd : FuncData} (F : Fun G.K "_law_crate" "_law_crate" s__law_crate f fd) (b : Binds G.K fd ["cell", "trays", "wells"] []) (g : G.mg "_law_crate" = some (.ref f)) (m_range : G.mg "range" = none) (m_tuple : G.mg "tuple" = none) : Fd G 1 "_law_crate" 3 F_law_crate :=
  fd_mk (k := 0) (body := (sSeq (sSetO 3 aNil)
      (sSeq (sFor (iRg (rg1D (e2 modD (eVar 0) (e2 addD (eVar 1) (eC (.int 1)))))) (gN 4)
      (sMut 3 appM (aCons (e2 modD (e2 divD (eVar 0) (e2 addD (eC (.int 7)) (e2 mulD (e2 mulD (eC (.int 5)) (eVar 4)) (e2 addD (eVar 4) (eC (.int 1)))))) (e2 addD (eVar 2) (eC (.int 1)))) aNil)))
      (sRet (eCB tupleD (aCons (eVarR 3) aNil)))))) F sc__law_crate b g rfl rfl (dss_cons (ds_setO 3 sc__law_crate.nd (df_lst da_nil))
      (dss_cons (ds_for (vs := [4]) (di_rg1 m_range (de_mod (de_var 0) (de_add (de_var 1) de_int))) (dx_name 4 sc__law_crate.nd)
      (dss_one (ds_append 3 (da_cons (de_mod (de_div (de_var 0) (de_add de_int (de_mul (de_mul de_int (de_var 4)) (de_add (de_var 4) de_int)))) (de_add (de_var 2) de_int)) da_nil))))
      (dss_one (ds_ret (de_tuple m_tuple (da_cons (de_varR 3) da_nil))))))
set_option maxHeartbeats 4000000 in
theorem fd__law_way {G : Gx} {f : Addr} {fd : FuncData} (F : Fun G.K "_law_way" "_law_way" s__law_way f fd) (b : Binds G.K fd ["cell", "one", "other"] []) (g : G.mg "_law_way" = some (.ref f)) (m_enumerate : G.mg "enumerate" = none) (m_len : G.mg "len" = none) (m_range : G.mg "range" = none) (m_tuple : G.mg "tuple" = none) : Fd G 1 "_law_way" 3 F_law_way :=
  fd_mk (k := 0) (body := (sSeq (sSetO 3 aNil)
      (sSeq (sFor (iEnumD (eVar 1)) (gT 2 (gsC (gN 4) (gsC (gN 5) gsN)))
      (sSeq (sSet 6 (e2 divD (eVar 0) (e2 addD (eC (.int 3)) (e2 mulD (eC (.int 11)) (eVar 4)))))
      (sSeq (sSet 7 (eL (lLc [8] (iRg (rg1D (eCB lenD (aCons (eVar 2) aNil)))) (gN 8) (tOr' (tB' (e2 gtD (eVar 5) (eC (.int 0)))) (tB' (e2 eqD (e2 ixD (eVar 2) (eVar 8)) (eC (.int 0))))) (eVar 8))))
      (sSeq (sIf (tB' (e2 eqD (eVar 7) (eL aNil)))
      (sRet (eC .none))
      sNil)
      (sSeq (sSet 8 (e2 ixD (eVar 7) (e2 modD (eVar 6) (eCB lenD (aCons (eVar 7) aNil)))))
      (sMut 3 appM (aCons (eTup (aCons (eVar 8) (aCons (eCB tupleD (aCons (eL (lLc [9] (iRg (rg1D (e2 ixD (eVar 2) (eVar 8)))) (gN 9) tY (e2 modD (e2 divD (eVar 6) (e2 addD (eC (.int 5)) (e2 mulD (eC (.int 7)) (eVar 9)))) (eVar 5)))) aNil)) aNil))) aNil)))))))
      (sRet (eCB tupleD (aCons (eVarR 3) aNil)))))) F sc__law_way b g rfl rfl (dss_cons (ds_setO 3 sc__law_way.nd (df_lst da_nil))
      (dss_cons (ds_for (vs := [4, 5]) (di_enum m_enumerate (de_var 1)) (dx_tup (dxs_cons (dx_name 4 sc__law_way.nd) (dxs_cons (dx_name 5 sc__law_way.nd) dxs_nil)))
      (dss_cons (ds_set 6 sc__law_way.nd (de_div (de_var 0) (de_add de_int (de_mul de_int (de_var 4)))))
      (dss_cons (ds_setLc 7 sc__law_way.nd (blkOk_by (own := [("there", 8)]) (by dsimp only [Sx.at]; decide +kernel)) (di_w (di_rg1 m_range (de_len m_len (da_cons (de_var 2) da_nil)))) (dx_name 8 sc__law_way.nd) (dts_one (dt_w (dw_or (dt_cmp cmp_gt (de_var 5) de_int) (dw_or1 (dt_cmp cmp_eq (de_ix (de_var 2) (de_var 8)) de_int))))) (de_var 8) (by decide +kernel))
      (dss_cons (ds_if (dt_cmp cmp_eq (de_var 7) (de_l (df_lst da_nil)))
      (dss_one (ds_ret de_non))
      dss_nil)
      (dss_cons (ds_set 8 sc__law_way.nd (de_ix (de_var 7) (de_mod (de_var 6) (de_len m_len (da_cons (de_var 7) da_nil)))))
      (dss_one (ds_append 3 (da_cons (de_tup (da_cons (de_var 8) (da_cons (de_tuple m_tuple (da_cons (de_l (df_lc sc__law_way.nd (blkOk_by (own := [("k", 9)]) (by dsimp only [Sx.at]; decide +kernel)) (di_w (di_rg1 m_range (de_ix (de_var 2) (de_var 8)))) (dx_name 9 sc__law_way.nd) dts_nil (de_mod (de_div (de_var 6) (de_add de_int (de_mul de_int (de_var 9)))) (de_var 5)))) da_nil)) da_nil))) da_nil))))))))
      (dss_one (ds_ret (de_tuple m_tuple (da_cons (de_varR 3) da_nil))))))
set_option maxHeartbeats 4000000 in
theorem fd__law_turned {G : Gx} {f : Addr} {fd : FuncData} (F : Fun G.K "_law_turned" "_law_turned" s__law_turned f fd) (b : Binds G.K fd ["way", "filling"] []) (g : G.mg "_law_turned" = some (.ref f)) (m_tuple : G.mg "tuple" = none) : Fd G 1 "_law_turned" 2 F_law_turned :=
  fd_mk (k := 0) (body := (sSeq (sAsg (e2 ixD (eVar 0) (e2 ixD (eVar 1) (eC (.int 0)))) (gT 2 (gsC (gN 2) (gsC (gN 3) gsN))))
      (sRet (eTup (aCons (eVar 2) (aCons (eCB tupleD (aCons (eL (lLc [4] (iItems (eVar 3)) (gN 4) tY (e2 ixD (e2 ixD (eVar 1) (eC (.int 1))) (eVar 4)))) aNil)) aNil)))))) F sc__law_turned b g rfl rfl (dss_cons (ds_asg (vs := [2, 3]) (de_ix (de_var 0) (de_ix (de_var 1) de_int)) (dx_tup (dxs_cons (dx_name 2 sc__law_turned.nd) (dxs_cons (dx_name 3 sc__law_turned.nd) dxs_nil))))
      (dss_one (ds_ret (de_tup (da_cons (de_var 2) (da_cons (de_tuple m_tuple (da_cons (de_l (df_lc sc__law_turned.nd (blkOk_by (own := [("well", 4)]) (by dsimp only [Sx.at]; decide +kernel)) (diw_seq (de_var 3)) (dx_name 4 sc__law_turned.nd) dts_nil (de_ix (de_ix (de_var 1) de_int) (de_var 4)))) da_nil)) da_nil))))))
set_option maxHeartbeats 4000000 in
theorem fd__law_fillings {G : Gx} {f : Addr} {fd : FuncData} (F : Fun G.K "_law_fillings" "_law_fillings" s__law_fillings f fd) (b : Binds G.K fd ["crate", "number"] []) (g : G.mg "_law_fillings" = some (.ref f)) (m_enumerate : G.mg "enumerate" = none) (m_range : G.mg "range" = none) : Fd G 1 "_law_fillings" 2 F_law_fillings :=
  fd_mk (k := 0) (body := (sSeq (sSetO 2 aNil)
      (sSeq (sFor (iEnumD (eVar 0)) (gT 2 (gsC (gN 3) (gsC (gN 4) gsN)))
      (sSeq (sSet 5 (eL (aCons (eTup aNil) aNil)))
      (sSeq (sFor (iRg (rg1D (eVar 4))) (gN 6)
      (sSeq (sSetO 7 aNil)
      (sSeq (sFor (iItems (eVar 5)) (gN 8)
      (sMut 7 extM (aCons (eL (lLc [9] (iRg (rg1D (eVar 1))) (gN 9) tY (e2 addD (eVar 8) (eTup (aCons (eVar 9) aNil))))) aNil)))
      (sFrz 7 (sSet 5 (eVar 7))))))
      (sMut 2 extM (aCons (eL (lLc [8] (iItems (eVar 5)) (gN 8) tY (eTup (aCons (eVar 3) (aCons (eVar 8) aNil))))) aNil)))))
      (sFrz 2 (sRet (eVar 2)))))) F sc__law_fillings b g rfl rfl (dss_cons (ds_setO 2 sc__law_fillings.nd (df_lst da_nil))
      (dss_cons (ds_for (vs := [3, 4]) (di_enum m_enumerate (de_var 0)) (dx_tup (dxs_cons (dx_name 3 sc__law_fillings.nd) (dxs_cons (dx_name 4 sc__law_fillings.nd) dxs_nil)))
      (dss_cons (ds_set 5 sc__law_fillings.nd (de_l (df_lst (da_cons (de_tup da_nil) da_nil))))
      (dss_cons (ds_for (vs := [6]) (di_rg1 m_range (de_var 4)) (dx_name 6 sc__law_fillings.nd)
      (dss_cons (ds_setO 7 sc__law_fillings.nd (df_lst da_nil))
      (dss_cons (ds_for (vs := [8]) (di_seq (de_var 5)) (dx_name 8 sc__law_fillings.nd)
      (dss_one (ds_extend 7 (da_cons (de_l (df_lc sc__law_fillings.nd (blkOk_by (own := [("thing", 9)]) (by dsimp only [Sx.at]; decide +kernel)) (di_w (di_rg1 m_range (de_var 1))) (dx_name 9 sc__law_fillings.nd) dts_nil (de_add (de_var 8) (de_tup (da_cons (de_var 9) da_nil))))) da_nil))))
      (dss_one (ds_frz 7 (ds_set 5 sc__law_fillings.nd (de_var 7)))))))
      (dss_one (ds_extend 2 (da_cons (de_l (df_lc sc__law_fillings.nd (blkOk_by (own := [("row", 8)]) (by dsimp only [Sx.at]; decide +kernel)) (diw_seq (de_var 5)) (dx_name 8 sc__law_fillings.nd) dts_nil (de_tup (da_cons (de_var 3) (da_cons (de_var 8) da_nil))))) da_nil))))))
      (dss_one (ds_frz 2 (ds_ret (de_var 2))))))
set_option maxHeartbeats 4000000 in
theorem fd__law_scene {G : Gx} {f : Addr} {fd : FuncData} (F : Fun G.K "_law_scene" "_law_scene" s__law_scene f fd) (b : Binds G.K fd ["script"] []) (g : G.mg "_law_scene" = some (.ref f)) (h__law_way : Fd G 1 "_law_way" 3 F_law_way) (h__law_cell : Fd G 1 "_law_cell" 2 F_law_cell) (h__law_crate : Fd G 1 "_law_crate" 3 F_law_crate) (m_enumerate : G.mg "enumerate" = none) (m_len : G.mg "len" = none) (m_list : G.mg "list" = none) (m_range : G.mg "range" = none) (m_tuple : G.mg "tuple" = none) : Fd G 2 "_law_scene" 1 F_law_scene_v2 :=
  fd_mk (k := 1) (body := (sSeq (sSet 1 (eCall F_law_crate (aCons (eCall F_law_cell (aCons (eVar 0) (aCons (eC (.int 0)) aNil))) (aCons (eC (.int 5)) (aCons (eC (.int 4)) aNil)))))
      (sSeq (sSet 2 (eCall F_law_cell (aCons (eVar 0) (aCons (eC (.int 1)) aNil))))
      (sSeq (sIf (tB' (e2 eqD (e2 modD (eVar 2) (eC (.int 2))) (eC (.int 0))))
      (sSeq (sSet 3 (eCall F_law_crate (aCons (e2 divD (eVar 2) (eC (.int 2))) (aCons (eC (.int 6)) (aCons (eC (.int 4)) aNil)))))
      (sFrz 3 (sRet (eTup (aCons (eVar 1) (aCons (eVar 3) (aCons (eCall F_law_way (aCons (eCall F_law_cell (aCons (eVar 0) (aCons (eC (.int 2)) aNil))) (aCons (eVar 1) (aCons (eVar 3) aNil)))) aNil)))))))
      sNil)
      (sSeq (sSetO 3 aNil)
      (sSeq (sSetO 4 aNil)
      (sSeq (sFor (iEnumD (eVar 1)) (gT 2 (gsC (gN 5) (gsC (gN 6) gsN)))
      (sSeq (sSet 7 (e2 divD (eVar 2) (e2 addD (eC (.int 3)) (e2 mulD (eC (.int 7)) (eVar 5)))))
      (sSeq (sSet 8 (eL (lRg (rg1D (eVar 6)))))
      (sSeq (sIf (tB' (e2 gtD (eVar 6) (eC (.int 0))))
      (sSeq (sSet 9 (e2 modD (eVar 7) (eVar 6)))
      (sSet 8 (e2 addD (e2 addD (eSl (eVar 8) (ePart (eVar 9)) eNoPart) (eSl (eVar 8) eNoPart (ePart (eVar 9)))) (eSl (eVar 8) eNoPart (ePart (e2 modD (e2 divD (eVar 7) (eC (.int 5))) (eC (.int 2))))))))
      sNil)
      (sSeq (sIf (tB' (e2 eqD (e2 modD (e2 divD (eVar 7) (eC (.int 11))) (eC (.int 6))) (eC (.int 0))))
      (sSet 8 (eSl (eVar 8) (ePart (eC (.int 1))) eNoPart))
      sNil)
      (sSeq (sMut 3 appM (aCons (eCB lenD (aCons (eVar 8) aNil)) aNil))
      (sMut 4 appM (aCons (eTup (aCons (eVar 5) (aCons (eCB tupleD (aCons (eVar 8) aNil)) aNil))) aNil))))))))
      (sRet (eTup (aCons (eVar 1) (aCons (eCB tupleD (aCons (eVarR 3) aNil)) (aCons (eCB tupleD (aCons (eVarR 4) aNil)) aNil)))))))))))) F sc__law_scene b g rfl rfl (dss_cons (ds_set 1 sc__law_scene.nd (de_call (h__law_crate.mono (Nat.le_of_ble_eq_true rfl)) (da_cons (de_call (h__law_cell.mono (Nat.le_of_ble_eq_true rfl)) (da_cons (de_var 0) (da_cons de_int da_nil))) (da_cons de_int (da_cons de_int da_nil)))))
      (dss_cons (ds_set 2 sc__law_scene.nd (de_call (h__law_cell.mono (Nat.le_of_ble_eq_true rfl)) (da_cons (de_var 0) (da_cons de_int da_nil))))
      (dss_cons (ds_if (dt_cmp cmp_eq (de_mod (de_var 2) de_int) de_int)
      (dss_cons (ds_set 3 sc__law_scene.nd (de_call (h__law_crate.mono (Nat.le_of_ble_eq_true rfl)) (da_cons (de_div (de_var 2) de_int) (da_cons de_int (da_cons de_int da_nil)))))
      (dss_one (ds_frz 3 (ds_ret (de_tup (da_cons (de_var 1) (da_cons (de_var 3) (da_cons (de_call (h__law_way.mono (Nat.le_of_ble_eq_true rfl)) (da_cons (de_call (h__law_cell.mono (Nat.le_of_ble_eq_true rfl)) (da_cons (de_var 0) (da_cons de_int da_nil))) (da_cons (de_var 1) (da_cons (de_var 3) da_nil)))) da_nil))))))))
      dss_nil)
      (dss_cons (ds_setO 3 sc__law_scene.nd (df_lst da_nil))
      (dss_cons (ds_setO 4 sc__law_scene.nd (df_lst da_nil))
      (dss_cons (ds_for (vs := [5, 6]) (di_enum m_enumerate (de_var 1)) (dx_tup (dxs_cons (dx_name 5 sc__law_scene.nd) (dxs_cons (dx_name 6 sc__law_scene.nd) dxs_nil)))
      (dss_cons (ds_set 7 sc__law_scene.nd (de_div (de_var 2) (de_add de_int (de_mul de_int (de_var 5)))))
      (dss_cons (ds_set 8 sc__law_scene.nd (de_l (df_listR m_list (dg_1 m_range (de_var 6)))))
      (dss_cons (ds_if (dt_cmp cmp_gt (de_var 6) de_int)
      (dss_cons (ds_set 9 sc__law_scene.nd (de_mod (de_var 7) (de_var 6)))
      (dss_one (ds_set 8 sc__law_scene.nd (de_add (de_add (de_slice (de_var 8) (do_some (de_var 9)) do_none) (de_slice (de_var 8) do_none (do_some (de_var 9)))) (de_slice (de_var 8) do_none (do_some (de_mod (de_div (de_var 7) de_int) de_int)))))))
      dss_nil)
      (dss_cons (ds_if (dt_cmp cmp_eq (de_mod (de_div (de_var 7) de_int) de_int) de_int)
      (dss_one (ds_set 8 sc__law_scene.nd (de_slice (de_var 8) (do_some de_int) do_none)))
      dss_nil)
      (dss_cons (ds_append 3 (da_cons (de_len m_len (da_cons (de_var 8) da_nil)) da_nil))
      (dss_one (ds_append 4 (da_cons (de_tup (da_cons (de_var 5) (da_cons (de_tuple m_tuple (da_cons (de_var 8) da_nil)) da_nil))) da_nil)))))))))
      (dss_one (ds_ret (de_tup (da_cons (de_var 1) (da_cons (de_tuple m_tuple (da_cons (de_varR 3) da_nil)) (da_cons (de_tuple m_tuple (da_cons (de_varR 4) da_nil)) da_nil))))))))))))
set_option maxHeartbeats 4000000 in
theorem ok_law {G : Gx} {f : Addr} {fd : FuncData} (F : Fun G.K "law" "law" s_law f fd) (h__law_turned : Fd G 1 "_law_turned" 2 F_law_turned) (h_is_filling : Fd G 4 "is_filling" 2 F_is_filling) (h__law_fillings : Fd G 1 "_law_fillings" 2 F_law_fillings) (h_one_to_one : Fd G 2 "one_to_one" 2 F_one_to_one) (h__law_scene : Fd G 2 "_law_scene" 1 F_law_scene_v2) (m_isinstance : G.mg "isinstance" = none) (m_len : G.mg "len" = none) (m_set : G.mg "set" = none) (m_tuple : G.mg "tuple" = none) (m_zip : G.mg "zip" = none) : FnOk G.P G.w G.K G.mg G.base (L2.CX G.P G.w) 5 f fd ["script"] (spD G.K G.cls 1 F_law_v37) :=
  fd_fn (k := 4) (body := (sSeq (sAsg (eCall F_law_scene_v2 (aCons (eVar 0) aNil)) (gT 3 (gsC (gN 1) (gsC (gN 2) (gsC (gN 3) gsN)))))
      (sSeq (sIf (tB' (e2 isD (eVar 3) (eC .none)))
      (sRet (eC (.bool true)))
      sNil)
      (sSeq (sSet 4 (eCall F_one_to_one (aCons (eVar 1) (aCons (eVar 3) aNil))))
      (sSeq (sSet 5 (eL (lLc [6, 7] (iItems (eVar 3)) (gT 2 (gsC (gN 6) (gsC (gN 7) gsN))) tY (eVar 6))))
      (sSeq (sSet 8 (e2 eqD (e1 lenSetLD (eVar 5)) (eCB lenD (aCons (eVar 5) aNil))))
      (sSeq (sFor (iZipD (aCons (eVar 1) (aCons (eVar 3) aNil))) (gT 2 (gsC (gN 9) (gsC (gT 2 (gsC (gN 6) (gsC (gN 7) gsN))) gsN)))
      (sSet 8 (eAnd (eVar 8) (e2 eqD (e1 lenSetD (eVar 7)) (eVar 9)))))
      (sSeq (sIf (tOr' (tNot' (tB' (e1 (isiD "tuple") (eVar 4)))) (tB' (e2 eqD (eCB lenD (aCons (eVar 4) aNil)) (eC (.int 0)))))
      (sRet (eC (.bool false)))
      sNil)
      (sSeq (sIf (tTr (eVar 8))
      (sSeq (sIf (tB' (e2 neD (eVar 4) (eTup (aCons (eC (.str "one to one")) aNil))))
      (sRet (eC (.bool false)))
      sNil)
      (sSeq (sSet 10 (eL (lLc [11] (iItems (eCall F_law_fillings (aCons (eVar 1) (aCons (eC (.int 2)) aNil)))) (gN 11) tY (eCall F_law_turned (aCons (eVar 3) (aCons (eVar 11) aNil))))))
      (sRet (e2 eqD (e1 lenSetPD (eVar 10)) (eCB lenD (aCons (eVar 10) aNil))))))
      sNil)
      (sSeq (sIf (tOr' (tB' (e2 neD (e2 ixD (eVar 4) (eC (.int 0))) (eC (.str "merged")))) (tOr' (tB' (e2 neD (eCB lenD (aCons (eVar 4) aNil)) (eC (.int 3)))) (tB' (e2 eqD (e2 ixD (eVar 4) (eC (.int 1))) (e2 ixD (eVar 4) (eC (.int 2)))))))
      (sRet (eC (.bool false)))
      sNil)
      (sSeq (sIf (tOr' (tNot' (tB' (eCall F_is_filling (aCons (eVar 1) (aCons (e2 ixD (eVar 4) (eC (.int 1))) aNil))))) (tNot' (tB' (eCall F_is_filling (aCons (eVar 1) (aCons (e2 ixD (eVar 4) (eC (.int 2))) aNil))))))
      (sRet (eC (.bool false)))
      sNil)
      (sRet (e2 eqD (eCall F_law_turned (aCons (eVar 3) (aCons (e2 ixD (eVar 4) (eC (.int 1))) aNil))) (eCall F_law_turned (aCons (eVar 3) (aCons (e2 ixD (eVar 4) (eC (.int 2))) aNil)))))))))))))))) F sc_law rfl rfl (dss_cons (ds_asg (vs := [1, 2, 3]) (de_call (h__law_scene.mono (Nat.le_of_ble_eq_true rfl)) (da_cons (de_var 0) da_nil)) (dx_tup (dxs_cons (dx_name 1 sc_law.nd) (dxs_cons (dx_name 2 sc_law.nd) (dxs_cons (dx_name 3 sc_law.nd) dxs_nil)))))
      (dss_cons (ds_if (dt_cmp cmp_is (de_var 3) de_non)
      (dss_one (ds_ret de_bl))
      dss_nil)
      (dss_cons (ds_set 4 sc_law.nd (de_call (h_one_to_one.mono (Nat.le_of_ble_eq_true rfl)) (da_cons (de_var 1) (da_cons (de_var 3) da_nil))))
      (dss_cons (ds_setLc 5 sc_law.nd (blkOk_by (own := [("there", 6), ("wells", 7)]) (by dsimp only [Sx.at]; decide +kernel)) (diw_seq (de_var 3)) (dx_tup (dxs_cons (dx_name 6 sc_law.nd) (dxs_cons (dx_name 7 sc_law.nd) dxs_nil))) dts_nil (de_var 6) (by decide +kernel))
      (dss_cons (ds_set 8 sc_law.nd (de_cmp cmp_eq (de_lenSetL m_len m_set (de_var 5)) (de_len m_len (da_cons (de_var 5) da_nil))))
      (dss_cons (ds_for (vs := [9, 6, 7]) (di_zip m_zip (da_cons (de_var 1) (da_cons (de_var 3) da_nil))) (dx_tup (dxs_cons (dx_name 9 sc_law.nd) (dxs_cons (dx_tup (dxs_cons (dx_name 6 sc_law.nd) (dxs_cons (dx_name 7 sc_law.nd) dxs_nil))) dxs_nil)))
      (dss_one (ds_set 8 sc_law.nd (de_and (de_var 8) (de_one (de_cmp cmp_eq (de_lenSet m_len m_set (de_var 7)) (de_var 9)))))))
      (dss_cons (ds_if (dt_w (dw_or (dt_not (dt_val (de_isi m_isinstance m_tuple (by decide +kernel) (de_var 4)))) (dw_or1 (dt_cmp cmp_eq (de_len m_len (da_cons (de_var 4) da_nil)) de_int))))
      (dss_one (ds_ret de_bl))
      dss_nil)
      (dss_cons (ds_if (dt_truth (de_var 8))
      (dss_cons (ds_if (dt_cmp cmp_ne (de_var 4) (de_tup (da_cons de_str da_nil)))
      (dss_one (ds_ret de_bl))
      dss_nil)
      (dss_cons (ds_setLc 10 sc_law.nd (blkOk_by (own := [("filling", 11)]) (by dsimp only [Sx.at]; decide +kernel)) (diw_seq (de_call (h__law_fillings.mono (Nat.le_of_ble_eq_true rfl)) (da_cons (de_var 1) (da_cons de_int da_nil)))) (dx_name 11 sc_law.nd) dts_nil (de_call (h__law_turned.mono (Nat.le_of_ble_eq_true rfl)) (da_cons (de_var 3) (da_cons (de_var 11) da_nil))) (by decide +kernel))
      (dss_one (ds_ret (de_cmp cmp_eq (de_lenSetP m_len m_set (de_var 10)) (de_len m_len (da_cons (de_var 10) da_nil)))))))
      dss_nil)
      (dss_cons (ds_if (dt_w (dw_or (dt_cmp cmp_ne (de_ix (de_var 4) de_int) de_str) (dw_or (dt_cmp cmp_ne (de_len m_len (da_cons (de_var 4) da_nil)) de_int) (dw_or1 (dt_cmp cmp_eq (de_ix (de_var 4) de_int) (de_ix (de_var 4) de_int))))))
      (dss_one (ds_ret de_bl))
      dss_nil)
      (dss_cons (ds_if (dt_w (dw_or (dt_not (dt_val (de_call (h_is_filling.mono (Nat.le_of_ble_eq_true rfl)) (da_cons (de_var 1) (da_cons (de_ix (de_var 4) de_int) da_nil))))) (dw_or1 (dt_not (dt_val (de_call (h_is_filling.mono (Nat.le_of_ble_eq_true rfl)) (da_cons (de_var 1) (da_cons (de_ix (de_var 4) de_int) da_nil))))))))
      (dss_one (ds_ret de_bl))
      dss_nil)
      (dss_one (ds_ret (de_cmp cmp_eq (de_call (h__law_turned.mono (Nat.le_of_ble_eq_true rfl)) (da_cons (de_var 3) (da_cons (de_ix (de_var 4) de_int) da_nil))) (de_call (h__law_turned.mono (Nat.le_of_ble_eq_true rfl)) (da_cons (de_var 3) (da_cons (de_ix (de_var 4) de_int) da_nil))))))))))))))))
theorem law_fillings {us : List Int} {n : Nat} (hu : ∀ x ∈ us, 0 ≤ x ∧ x ≤ 60) (hl : us.length ≤ 10000) (hn : n ≤ 10000) (hc : cnt (n : Int) us ≤ 2000) : F_law_fillings [cr us, .int (n : Int)] = .ok (.list ((fills n us us.length).map dPair)) := by
  have fl : ∀ i, i ≤ us.length → (fills n us i).length ≤ 2000 := fun i hi => by
    have h1 := fills_len (n := n) (ws := us) hi
    have h2 := cnt_take_le (n := (n : Int)) (by omega) us i
    omega
  unfold F_law_fillings
  refine fn_E (ρ := [some (false, cr us), some (false, .int (n : Int)), none, none, none, none, none, none, none, none]) rfl ?_
  refine seq_R (ρ' := [some (false, cr us), some (false, .int (n : Int)), some (true, .list []), none, none, none, none, none, none, none]) (by simp) ?_
  refine for_R (ds := enumG 0 (us.map PyData.int)) (by simp) (fun i ρ => ∃ j3 j4 j5 j6 j7 j8, ρ = [some (false, cr us), some (false, .int (n : Int)), some (true, .list ((fills n us i).map dPair)), j3, j4, j5, j6, j7, j8, none]) ⟨none, none, none, none, none, none, by simp [fills]⟩ ?_ ?_
  · intro i d ρ hd ⟨j3, j4, j5, j6, j7, j8, hρ⟩
    subst hρ
    obtain ⟨m, hm, rfl⟩ := enum_get hd
    have hi : i < us.length := (List.getElem?_eq_some_iff.mp hm).1
    obtain ⟨m0, m1⟩ := hu m (List.mem_of_getElem? hm)
    have hp : n ^ m.toNat ≤ 2000 := by
      have h1 := cnt_term (n := (n : Int)) (by omega) hm
      have h2 : ((n ^ m.toNat : Nat) : Int) = (n : Int) ^ m.toNat := Int.natCast_pow n _
      omega
    have f1 := fills_succ n us i
    have o1 : one n us i = (rows n m.toNat).map fun r => ((i : Int), r) := by
      unfold one
      rw [List.getD_eq_getElem?_getD, hm]
      rfl
    have l1 := fl (i + 1) (by omega)
    rw [f1, o1, List.length_append, List.length_map] at l1
    refine stp_turn (ρ' := [some (false, cr us), some (false, .int (n : Int)), some (true, .list ((fills n us i).map dPair)), some (false, .int (i : Int)), some (false, .int m), j5, j6, j7, j8, none]) (by simp) ?_
    refine stp_seq (ρ' := [some (false, cr us), some (false, .int (n : Int)), some (true, .list ((fills n us i).map dPair)), some (false, .int (i : Int)), some (false, .int m), some (false, .list [.tuple []]), j6, j7, j8, none]) (by simp) ?_
    refine for_S (ds := (iota m).map PyData.int) (by simp [rgOk0 m0 (show m ≤ 16777216 by omega), rgD0]) (fun j ρ => ∃ j6 j7 j8, ρ = [some (false, cr us), some (false, .int (n : Int)), some (true, .list ((fills n us i).map dPair)), some (false, .int (i : Int)), some (false, .int m), some (false, .list ((rows n j).map cr)), j6, j7, j8, none]) ⟨j6, j7, j8, rfl⟩ ?_ ?_
    · intro j d ρ hd ⟨j6, j7, j8, hρ⟩
      subst hρ
      obtain ⟨k, hk, rfl⟩ := map_get' hd
      have hj : j < m.toNat := by have := (List.getElem?_eq_some_iff.mp hk).1; rw [iota_len] at this; exact this
      have rl := rows_len n (j + 1)
      have rb : n ^ (j + 1) ≤ 2001 := Nat.le_trans (pow_le_max (n := n) (i := j + 1) (w := m.toNat) hj) (by omega)
      refine stp_turn (ρ' := [some (false, cr us), some (false, .int (n : Int)), some (true, .list ((fills n us i).map dPair)), some (false, .int (i : Int)), some (false, .int m), some (false, .list ((rows n j).map cr)), some (false, .int k), j7, j8, none]) (by simp) ?_
      refine stp_seq (ρ' := [some (false, cr us), some (false, .int (n : Int)), some (true, .list ((fills n us i).map dPair)), some (false, .int (i : Int)), some (false, .int m), some (false, .list ((rows n j).map cr)), some (false, .int k), some (true, .list []), j8, none]) (by simp) ?_
      refine for_S (ds := (rows n j).map cr) (by simp) (fun l ρ => ∃ j8, ρ = [some (false, cr us), some (false, .int (n : Int)), some (true, .list ((fills n us i).map dPair)), some (false, .int (i : Int)), some (false, .int m), some (false, .list ((rows n j).map cr)), some (false, .int k), some (true, .list ((((rows n j).take l).flatMap fun r => (List.range n).map fun (t : Nat) => r ++ [(t : Int)]).map cr)), j8, none]) ⟨j8, by simp⟩ ?_ ?_
      · intro l d ρ hd ⟨j8, hρ⟩
        subst hρ
        obtain ⟨r, hr, rfl⟩ := map_get' hd
        have hl : l < (rows n j).length := (List.getElem?_eq_some_iff.mp hr).1
        have tk := take_snoc hr
        have ll : (((rows n j).take (l + 1)).flatMap fun r => (List.range n).map fun (t : Nat) => r ++ [(t : Int)]).length ≤ 2001 := by
          have e : rows n (j + 1) = (rows n j).flatMap fun r => (List.range n).map fun (t : Nat) => r ++ [(t : Int)] := rfl
          have e2 : (rows n j) = (rows n j).take (l + 1) ++ (rows n j).drop (l + 1) := (List.take_append_drop ..).symm
          rw [e, e2, List.flatMap_append, List.length_append] at rl
          omega
        have rlen : r.length ≤ 60 := by
          have := (rows_mem (List.mem_of_getElem? hr)).1
          omega
        rw [tk, List.flatMap_append, List.flatMap_singleton, List.length_append] at ll
        have e5 : (iota (n : Int)).map (fun t => r ++ [t]) = (List.range n).map fun (t : Nat) => r ++ [(t : Int)] := by
          unfold iota
          rw [List.map_map, Int.toNat_natCast]
          rfl
        have xt : extM ((((rows n j).take l).flatMap fun r => (List.range n).map fun (t : Nat) => r ++ [(t : Int)]).map cr) [.list (((iota (n : Int)).map (fun t => r ++ [t])).map cr)] = .ok ((((rows n j).take (l + 1)).flatMap fun r => (List.range n).map fun (t : Nat) => r ++ [(t : Int)]).map cr) := by
          rw [q_ext (by rw [List.length_map, List.length_map, List.length_map, iota_len, Int.toNat_natCast, lim_eq]; rw [List.length_map (f := fun (t : Nat) => r ++ [(t : Int)]), List.length_range] at ll; omega), tk, List.flatMap_append, List.flatMap_singleton, List.map_append, e5]
        simp [-List.map_map, -List.map_append, rgOk0 (show (0 : Int) ≤ (n : Int) by omega) (show (n : Int) ≤ 16777216 by omega), rgD0]
        rw [lc_mapE (enc := PyData.int) (out := cr) (h := fun t : Int => r ++ [t]) (xs := iota (n : Int))]
        rotate_left
        · intro t ht
          have ad : addD (cr r) (.tuple [.int t]) = .ok (cr (r ++ [t])) := by
            rw [q_addT (by simp [lim_eq]; omega)]
            simp
          simp [ad, -List.map_append]
        rw [cap_le (by simp [lim_eq, iota_len]; omega)]
        simp [-List.map_map, -List.map_append, xt]
      · intro ρ' ⟨j8, hρ⟩
        subst hρ
        rw [List.length_map, List.take_length]
        simp [-List.map_map, -List.map_append]
        rfl
    · intro ρ' ⟨j6, j7, j8, hρ⟩
      subst hρ
      rw [List.length_map, iota_len]
      simp [-List.map_map, -List.map_append]
      rw [lc_mapE (enc := cr) (out := dPair) (h := fun r => ((i : Int), r)) (xs := rows n m.toNat)]
      rotate_left
      · intro r hr
        simp [dPair]
      rw [cap_le (by simp [lim_eq]; omega)]
      have xt : extM ((fills n us i).map dPair) [.list (((rows n m.toNat).map fun r => ((i : Int), r)).map dPair)] = .ok ((fills n us (i + 1)).map dPair) := by
        rw [q_ext (by simp [lim_eq]; omega), f1, o1, List.map_append]
      simp [-List.map_map, -List.map_append, xt]
  · intro ρ' ⟨j3, j4, j5, j6, j7, j8, hρ⟩
    subst hρ
    rw [enumG_len, List.length_map]
    exact ⟨_, by simp, rfl⟩
/-! ### what is taken of each tray tells the fillings apart -/
theorem ltl_irr26 : ∀ {a : List Int}, ¬ LtL a a
  | [] => fun h => h
  | x :: xs => fun h => h.elim (fun h => absurd h (Int.lt_irrefl _)) fun h => ltl_irr26 h.2
theorem ltp_irr26 {p : Int × List Int} : ¬ LtP p p := fun h => h.elim (fun h => absurd h (Int.lt_irrefl _)) fun h => ltl_irr26 h.2
theorem fills_ok {n : Nat} {ws : List Int} (hw : Small ws) {p : Int × List Int} (h : p ∈ fills n ws ws.length) : FillOk (n : Int) ws p := fills_mem (Nat.le_refl _) hw h
theorem pick_ext26 {a b : List Int} (hl : a.length = b.length) (h : ∀ y : Int, 0 ≤ y → y < (a.length : Int) → pick a y = pick b y) : a = b := by
  refine List.ext_getElem hl fun i h1 h2 => ?_
  have e := h (i : Int) (by omega) (by omega)
  have p1 := pick_in (r := a) (y := (i : Int)) (by omega) (by omega)
  have p2 := pick_in (r := b) (y := (i : Int)) (by omega) (by omega)
  rw [Int.toNat_natCast, List.getElem?_eq_getElem h1] at p1
  rw [Int.toNat_natCast, List.getElem?_eq_getElem h2] at p2
  rw [Option.some.inj p1, Option.some.inj p2, e]
theorem single_apart {ws us : List Int} {wy : List (Int × List Int)} (ok : WayOk ws us wy) (s : SingleW ws wy wy.length) {n m : Int} {p q : Int × List Int} (fp : FillOk n ws p) (fq : FillOk m ws q) (e : stepW wy p = stepW wy q) : p = q := by
  obtain ⟨v, gv, fv⟩ := way_at ok fp
  obtain ⟨w, gw, fw⟩ := way_at ok fq
  rw [step_some gv, step_some gw] at e
  have e1 : v.1 = w.1 := (Prod.mk.inj e).1
  have e2 : v.2.map (pick p.2) = w.2.map (pick q.2) := (Prod.mk.inj e).2
  have l1 := (List.getElem?_eq_some_iff.mp gv).1
  have l2 := (List.getElem?_eq_some_iff.mp gw).1
  have p0 := fp.1
  have q0 := fq.1
  have ee : p.1 = q.1 := by
    rcases Nat.lt_trichotomy p.1.toNat q.1.toNat with h | h | h
    · exact absurd e1 (s.t _ _ _ _ h l2 gv gw)
    · omega
    · exact absurd e1.symm (s.t _ _ _ _ h l1 gw gv)
  have hx := fp.2.2.1
  rw [ee] at gv hx
  rw [gw] at gv
  have ev : w = v := Option.some.inj gv
  subst ev
  have hy := fq.2.2.1
  rw [hx] at hy
  have ll : (p.2.length : Int) = (q.2.length : Int) := Option.some.inj hy
  refine Prod.ext ee (pick_ext26 (by omega) fun y y0 y1 => ?_)
  have ym := s.w _ w _ l2 gw hx y y0 y1
  obtain ⟨k, hk⟩ := List.getElem?_of_mem ym
  have := congrArg (fun l : List Int => l[k]?) e2
  simp only [List.getElem?_map] at this
  rw [hk] at this
  exact Option.some.inj this
theorem fills_apart {ws us : List Int} {wy : List (Int × List Int)} {n : Nat} (hw : Small ws) (ok : WayOk ws us wy) (s : SingleW ws wy wy.length) : ((fills n ws ws.length).map (stepW wy)).Nodup :=
  List.pairwise_map.mpr (List.Pairwise.imp_of_mem (fun {a b} ha hb h e => by
    have := single_apart ok s (fills_ok hw ha) (fills_ok hw hb) e
    rw [this] at h
    exact ltp_irr26 h) (fills_sorted n ws ws.length))
theorem step_dom {ws us : List Int} {wy : List (Int × List Int)} (ok : WayOk ws us wy) (ul : us.length ≤ 6) (ub : ∀ x ∈ us, 0 ≤ x ∧ x ≤ 5) {p : Int × List Int} (fp : FillOk 2 ws p) : stepW wy p ∈ domB := by
  obtain ⟨v, gv, fv⟩ := way_at ok fp
  rw [step_some gv]
  obtain ⟨a1, a2, a3, a4⟩ := fv
  have := ub _ (List.mem_of_getElem? a3)
  refine domB_mem a1 (by show v.1 ≤ 5; omega) (by show (v.2.map (pick p.2)).length ≤ 5; rw [List.length_map]; omega) fun x hx => ?_
  obtain ⟨y, hy, rfl⟩ := List.mem_map.mp hx
  obtain ⟨y0, y1⟩ := a4 y hy
  have := fp.2.2.2 _ (List.mem_of_getElem? (pick_in y0 y1))
  omega
theorem cnt2_le : ∀ {ws : List Int}, (∀ x ∈ ws, 0 ≤ x ∧ x ≤ 4) → cnt 2 ws ≤ 16 * (ws.length : Int)
  | [], _ => by decide
  | x :: ws, h => by
    have ih := cnt2_le (ws := ws) fun y hy => h y (List.mem_cons_of_mem _ hy)
    have hx := h x List.mem_cons_self
    have e : cnt 2 (x :: ws) = 2 ^ x.toNat + cnt 2 ws := by
      unfold cnt
      rw [List.map_cons, List.sum_cons]
    have h2 : (2 : Int) ^ x.toNat ≤ 16 := by
      have : x.toNat = 0 ∨ x.toNat = 1 ∨ x.toNat = 2 ∨ x.toNat = 3 ∨ x.toNat = 4 := by omega
      rcases this with h | h | h | h | h <;> rw [h] <;> decide
    rw [e, List.length_cons]
    omega
/-! ### what is merged -/
theorem mark_pick26 {i x : Int} {l : List Int} {y : Int} (y0 : 0 ≤ y) (y1 : y < x) : pick (markF i x l).2 y = if y ∈ l then 1 else 0 := by
  have h : (iota x)[y.toNat]? = some y := by
    rw [iota_get (by omega)]
    congr 1
    omega
  show ((iota x).map fun y => if y ∈ l then (1 : Int) else 0).getD y.toNat 0 = _
  rw [List.getD_eq_getElem?_getD, List.getElem?_map, h]
  rfl
theorem mark_ok26 {ws : List Int} {i : Nat} {x : Int} {l : List Int} (g : ws[i]? = some x) (x0 : 0 ≤ x) : FillOk 2 ws (markF (i : Int) x l) := by
  have := (List.getElem?_eq_some_iff.mp g).1
  have e : (markF (i : Int) x l).2.length = x.toNat := by
    show ((iota x).map _).length = _
    rw [List.length_map, iota_len]
  refine ⟨by show (0 : Int) ≤ (i : Int); omega, by show (i : Int) < _; omega, ?_, fun y hy => ?_⟩
  · rw [e]
    show ws[((i : Int)).toNat]? = _
    rw [Int.toNat_natCast, g, Int.toNat_of_nonneg x0]
  · obtain ⟨z, _, rfl⟩ := List.mem_map.mp hy
    by_cases h : z ∈ l
    · rw [if_pos h]; decide
    · rw [if_neg h]; decide
theorem mark_step26 {ws us : List Int} {wy : List (Int × List Int)} (ok : WayOk ws us wy) {i : Nat} {x : Int} {q : Int × List Int} (hq : wy[i]? = some q) (g : ws[i]? = some x) {l : List Int} (h : ∀ y ∈ q.2, y ∉ l) : stepW wy (markF (i : Int) x l) = (q.1, List.replicate q.2.length 0) := by
  have : (markF (i : Int) x l).1.toNat = i := Int.toNat_natCast i
  rw [step_some (by rw [this]; exact hq)]
  refine Prod.ext rfl ?_
  show q.2.map (pick (markF (i : Int) x l).2) = _
  refine List.eq_replicate_iff.mpr ⟨by rw [List.length_map], fun z hz => ?_⟩
  obtain ⟨y, hy, rfl⟩ := List.mem_map.mp hz
  obtain ⟨_, _, _, a4⟩ := ok.2 i q x hq g
  obtain ⟨y0, y1⟩ := a4 y hy
  rw [mark_pick26 y0 y1, if_neg (h y hy)]
/-- two unlike fillings of the first crate that become one -/
theorem merged_two {ws us : List Int} {wy : List (Int × List Int)} (hw : Small ws) (ok : WayOk ws us wy) {z : PyData} (h : Merged ws wy z) : ∃ a b, z = .tuple [.str "merged", dPair a, dPair b] ∧ a ≠ b ∧ FillOk 2 ws a ∧ FillOk 2 ws b ∧ stepW wy a = stepW wy b := by
  rcases h with ⟨s, i, p, q, xs, x, hs, hp, hq, e, gs, gi, rfl⟩ | ⟨i, q, x, hq, gx, hE, rfl⟩
  · refine ⟨_, _, rfl, fun z => ?_, mark_ok26 gs (hw _ (List.mem_of_getElem? gs)).1, mark_ok26 gi (hw _ (List.mem_of_getElem? gi)).1, ?_⟩
    · have : (s : Int) = (i : Int) := congrArg Prod.fst z
      omega
    · rw [mark_step26 ok hp gs fun y _ h => (by cases h), mark_step26 ok hq gi fun y _ h => (by cases h), e]
      have a := (ok.2 s p xs hp gs).2.2.1
      have b := (ok.2 i q x hq gi).2.2.1
      rw [e, b] at a
      have : ((q.2.length : Nat) : Int) = ((p.2.length : Nat) : Int) := Option.some.inj a
      rw [show p.2.length = q.2.length by omega]
  · refine ⟨_, _, rfl, fun z => ?_, mark_ok26 gx (hw _ (List.mem_of_getElem? gx)).1, mark_ok26 gx (hw _ (List.mem_of_getElem? gx)).1, ?_⟩
    · obtain ⟨y, hy⟩ := List.exists_mem_of_ne_nil _ hE
      obtain ⟨y0, y1⟩ := iota_below _ y (List.mem_filter.mp hy).1
      have := congrArg (fun p : Int × List Int => pick p.2 y) z
      simp only [mark_pick26 y0 y1] at this
      rw [if_pos hy, if_neg (by simp)] at this
      exact absurd this (by decide)
    · rw [mark_step26 ok hq gx fun y _ h => (by cases h), mark_step26 ok hq gx fun y hy h => ?_]
      have := (List.mem_filter.mp h).2
      simp [hy] at this
theorem filling_yes {ws : List Int} {n : Int} {p : Int × List Int} (sw : Small ws) (lw : ws.length ≤ 60) (f : FillOk n ws p) : F_is_filling [cr ws, dPair p] = .ok (.bool true) := by
  have c1 := is_crate_cr (ws := ws) (by omega)
  rw [crate_mk sw lw] at c1
  have f1 := fits_pairI (us := ws) (p := p)
  have f2 : fitsD ws (dPair p) = true := by
    show (decide (0 ≤ p.1) && decide (p.1 < (ws.length : Int)) && decide (ws[p.1.toNat]? = some ((((p.2).map PyData.int).length : Nat) : Int))) = true
    rw [decide_eq_true f.1, decide_eq_true f.2.1, decide_eq_true (by rw [List.length_map]; exact f.2.2.1)]
    rfl
  rw [f2] at f1
  unfold F_is_filling
  exact fn_E (ρ := [some (false, cr ws), some (false, dPair p)]) rfl (ret_R (d := .bool true) (by simp [c1, f1]) rfl)
/-! ### the scene -/
theorem cut_dropN (l : List Int) (k : Nat) : cutD (l.map PyData.int) (some (k : Int)) none = (l.drop k).map PyData.int := by
  rw [cut_map]
  have e1 : HT.sIx l.length 0 (some (k : Int)) = min k l.length := HT.sIx_nat l.length 0 k
  have e2 : HT.sIx l.length l.length none = l.length := rfl
  rw [e1, e2]
  congr 1
  rcases Nat.le_total k l.length with h | h
  · rw [Nat.min_eq_left h, List.take_of_length_le (by rw [List.length_drop]; exact Nat.le_refl _)]
  · rw [Nat.min_eq_right h, List.drop_eq_nil_of_le (Nat.le_refl _), List.drop_eq_nil_of_le h, List.take_nil]
theorem cut_takeN (l : List Int) (k : Nat) : cutD (l.map PyData.int) none (some (k : Int)) = (l.take k).map PyData.int := by
  rw [cut_map]
  have e1 : HT.sIx l.length 0 none = 0 := rfl
  have e2 : HT.sIx l.length l.length (some (k : Int)) = min k l.length := HT.sIx_nat l.length l.length k
  rw [e1, e2, List.drop_zero, Nat.sub_zero]
  congr 1
  rcases Nat.le_total k l.length with h | h
  · rw [Nat.min_eq_left h]
  · rw [Nat.min_eq_right h, List.take_length, List.take_of_length_le h]
structure Grown (ws : List Int) (i : Nat) (us : List Int) (wy : List (Int × List Int)) : Prop where
  ul : us.length = i
  wl : wy.length = i
  ub : ∀ x ∈ us, 0 ≤ x ∧ x ≤ 5
  ok : ∀ (k : Nat) p x, wy[k]? = some p → ws[k]? = some x → p.1 = (k : Int) ∧ us[k]? = some ((p.2.length : Nat) : Int) ∧ Below x p.2
theorem grown_next {ws us : List Int} {wy : List (Int × List Int)} {i : Nat} {x : Int} (g : Grown ws i us wy) (gx : ws[i]? = some x) {l : List Int} (hb : Below x l) (hl : l.length ≤ 5) : Grown ws (i + 1) (us ++ [(l.length : Int)]) (wy ++ [((i : Int), l)]) := by
  have gu := g.ul
  have gw := g.wl
  refine ⟨by rw [List.length_append, g.ul]; rfl, by rw [List.length_append, g.wl]; rfl, fun y hy => ?_, fun k p y hp hy => ?_⟩
  · rcases List.mem_append.mp hy with h | h
    · exact g.ub y h
    · rw [List.mem_singleton.mp h]; omega
  · rcases get_snoc hp with ⟨hk, hp⟩ | ⟨hk, rfl⟩
    · obtain ⟨a, b, c⟩ := g.ok k p y hp hy
      exact ⟨a, by rw [List.getElem?_append_left (by omega)]; exact b, c⟩
    · rw [hk, gw] at hy ⊢
      rw [gx] at hy
      cases hy
      refine ⟨rfl, ?_, hb⟩
      rw [List.getElem?_append_right (by omega), gu, Nat.sub_self]
      rfl
theorem grown_way {ws us : List Int} {wy : List (Int × List Int)} (g : Grown ws ws.length us wy) : WayOk ws us wy := by
  refine ⟨g.wl, fun i p x hp hx => ?_⟩
  obtain ⟨a, b, c⟩ := g.ok i p x hp hx
  have := (List.getElem?_eq_some_iff.mp hx).1
  have := g.ul
  refine ⟨by omega, by omega, ?_, c⟩
  rw [a, Int.toNat_natCast]
  exact b
theorem law_scene (ns : List Int) (h : ns.length ≤ 63) : ∃ d, F_law_scene_v2 [scrD (ns.map PyData.int)] = .ok d ∧ ∃ ws us A, d = .tuple [cr ws, cr us, A] ∧ (A = .none ∨ ∃ wy, A = dWay wy ∧ WayOk ws us wy) ∧ ws.length ≤ 5 ∧ (∀ x ∈ ws, 0 ≤ x ∧ x ≤ 4) ∧ us.length ≤ 6 ∧ (∀ x ∈ us, 0 ≤ x ∧ x ≤ 5) := by
  obtain ⟨c0, e0, g0, _⟩ := law_cell (ns := ns) (k := 0) (by omega) (by decide) (by decide)
  obtain ⟨c1, e1', g1, _⟩ := law_cell (ns := ns) (k := 1) (by omega) (by decide) (by decide)
  obtain ⟨c2, e2', g2, _⟩ := law_cell (ns := ns) (k := 2) (by omega) (by decide) (by decide)
  generalize scrD (ns.map PyData.int) = S at *
  obtain ⟨ws, a0, l0, w0⟩ := law_crate (c := c0) (t := 5) (w := 4) g0 (by decide) (by decide) (by decide) (by decide)
  have sw : Small ws := fun x hx => ⟨(w0 x hx).1, by have := (w0 x hx).2; omega⟩
  have m2 := q_mod (i := c1) (j := 2) (by decide)
  unfold F_law_scene_v2
  refine fn_R (ρ := [some (false, S), none, none, none, none, none, none, none, none, none]) rfl ?_
  refine seq_R (ρ' := [some (false, S), some (false, cr ws), none, none, none, none, none, none, none, none]) (by simp [e0, a0]) ?_
  refine seq_R (ρ' := [some (false, S), some (false, cr ws), some (false, .int c1), none, none, none, none, none, none, none]) (by simp [e1']) ?_
  by_cases hc : c1 % 2 = 0
  · have d2 := q_div (i := c1) (j := 2) (by decide) (wide_small (by decide) (by decide))
    obtain ⟨us, a1, l1, w1⟩ := law_crate (c := c1 / 2) (t := 6) (w := 4) (by omega) (by decide) (by decide) (by decide) (by decide)
    have su : Small us := fun x hx => ⟨(w1 x hx).1, by have := (w1 x hx).2; omega⟩
    obtain ⟨A, eA, hA⟩ : ∃ A, F_law_way [.int c2, cr ws, cr us] = .ok A ∧ (A = .none ∨ ∃ wy, A = dWay wy ∧ WayOk ws us wy) := by
      rcases law_way (c := c2) (us := ws) (vs := us) g2 sw (by omega) su (by omega) with k | ⟨wy, k, ok⟩
      · exact ⟨_, k, .inl rfl⟩
      · exact ⟨_, k, .inr ⟨wy, rfl, ok⟩⟩
    have hb : (c1 % 2 == 0) = true := beq_iff_eq.mpr hc
    refine seq_Q (d := .tuple [cr ws, cr us, A]) (by simp [m2, hb, d2, a1, e2', eA]) ⟨ws, us, A, rfl, hA, by omega, w0, by omega, fun x hx => ⟨(w1 x hx).1, by have := (w1 x hx).2; omega⟩⟩
  · have hb : (c1 % 2 == 0) = false := beq_eq_false_iff_ne.mpr hc
    refine seq_R (ρ' := [some (false, S), some (false, cr ws), some (false, .int c1), none, none, none, none, none, none, none]) (by simp [m2, hb]) ?_
    refine seq_R (ρ' := [some (false, S), some (false, cr ws), some (false, .int c1), some (true, .list []), none, none, none, none, none, none]) (by simp) ?_
    refine seq_R (ρ' := [some (false, S), some (false, cr ws), some (false, .int c1), some (true, .list []), some (true, .list []), none, none, none, none, none]) (by simp) ?_
    refine for_R (ds := enumG 0 (ws.map PyData.int)) (by simp) (fun i ρ => ∃ (us : List Int) (wy : List (Int × List Int)) (j5 j6 j7 j8 j9 : Option (Bool × PyData)), Grown ws i us wy ∧ ρ = [some (false, S), some (false, cr ws), some (false, .int c1), some (true, .list (us.map PyData.int)), some (true, .list (wy.map dPair)), j5, j6, j7, j8, j9]) ⟨[], [], none, none, none, none, none, ⟨rfl, rfl, fun x h => (by cases h), fun k p x h => (by simp at h)⟩, rfl⟩ ?_ ?_
    · intro i d ρ hd ⟨us, wy, j5, j6, j7, j8, j9, g, hρ⟩
      subst hρ
      obtain ⟨m, hm, rfl⟩ := enum_get hd
      have hi : i < ws.length := (List.getElem?_eq_some_iff.mp hm).1
      obtain ⟨m0, m1⟩ := w0 m (List.mem_of_getElem? hm)
      have gul := g.ul
      have gwl := g.wl
      refine stp_turn (ρ' := [some (false, S), some (false, cr ws), some (false, .int c1), some (true, .list (us.map PyData.int)), some (true, .list (wy.map dPair)), some (false, .int (i : Int)), some (false, .int m), j7, j8, j9]) (by simp) ?_
      have b1 : mulD (.int 7) (.int (i : Int)) = .ok (.int (7 * (i : Int))) := q_mul (wide_small (by decide) (by decide)) (wide_small (by omega) (by omega))
      have b2 := q_div (i := c1) (j := 3 + 7 * (i : Int)) (by omega) (wide_small (by omega) (by omega))
      have n0 : 0 ≤ c1 / (3 + 7 * (i : Int)) := Int.ediv_nonneg g1 (by omega)
      refine stp_seq (ρ' := [some (false, S), some (false, cr ws), some (false, .int c1), some (true, .list (us.map PyData.int)), some (true, .list (wy.map dPair)), some (false, .int (i : Int)), some (false, .int m), some (false, .int (c1 / (3 + 7 * (i : Int)))), j8, j9]) (by simp [b1, b2]) ?_
      generalize c1 / (3 + 7 * (i : Int)) = near at n0
      refine stp_seq (ρ' := [some (false, S), some (false, cr ws), some (false, .int c1), some (true, .list (us.map PyData.int)), some (true, .list (wy.map dPair)), some (false, .int (i : Int)), some (false, .int m), some (false, .int near), some (false, .list ((iota m).map PyData.int)), j9]) (by simp [rgOk0 m0 (show m ≤ 16777216 by omega), rgD0]) ?_
      have il := iota_len m
      have ib : Below m (iota m) := iota_below m
      obtain ⟨l, k9, lb, ll, st⟩ : ∃ (l : List Int) (k9 : Option (Bool × PyData)), Below m l ∧ l.length ≤ 5 ∧ (sIf (tB' (e2 gtD (eVar 6) (eC (.int 0))))
          (sSeq (sSet 9 (e2 modD (eVar 7) (eVar 6)))
          (sSet 8 (e2 addD (e2 addD (eSl (eVar 8) (ePart (eVar 9)) eNoPart) (eSl (eVar 8) eNoPart (ePart (eVar 9)))) (eSl (eVar 8) eNoPart (ePart (e2 modD (e2 divD (eVar 7) (eC (.int 5))) (eC (.int 2))))))))
          sNil) [some (false, S), some (false, cr ws), some (false, .int c1), some (true, .list (us.map PyData.int)), some (true, .list (wy.map dPair)), some (false, .int (i : Int)), some (false, .int m), some (false, .int near), some (false, .list ((iota m).map PyData.int)), j9] = .ok (.nx [some (false, S), some (false, cr ws), some (false, .int c1), some (true, .list (us.map PyData.int)), some (true, .list (wy.map dPair)), some (false, .int (i : Int)), some (false, .int m), some (false, .int near), some (false, .list (l.map PyData.int)), k9]) := by
        by_cases hp : 0 < m
        · have e3 := q_mod (i := near) (j := m) (by omega)
          have t0 : 0 ≤ near % m := Int.emod_nonneg _ (by omega)
          have t1 : near % m < m := Int.emod_lt_of_pos _ hp
          have e4 := q_div (i := near) (j := 5) (by decide) (wide_small (by decide) (by decide))
          have e5 := q_mod (i := near / 5) (j := 2) (by decide)
          obtain ⟨a, ha⟩ := Int.eq_ofNat_of_zero_le t0
          obtain ⟨b, hb'⟩ := Int.eq_ofNat_of_zero_le (Int.emod_nonneg (near / 5) (show (2 : Int) ≠ 0 by decide))
          have b2' : b ≤ 1 := by have := Int.emod_lt_of_pos (near / 5) (show (0 : Int) < 2 by decide); omega
          have hg : (0 : Int) < m := hp
          rw [ha] at e3 t1
          rw [hb'] at e5
          have s1 : slD (.list ((iota m).map PyData.int)) (some (a : Int)) none = .ok (.list (((iota m).drop a).map PyData.int)) := by rw [q_slL, cut_dropN]
          have s2 : slD (.list ((iota m).map PyData.int)) none (some (a : Int)) = .ok (.list (((iota m).take a).map PyData.int)) := by rw [q_slL, cut_takeN]
          have s3 : slD (.list ((iota m).map PyData.int)) none (some (b : Int)) = .ok (.list (((iota m).take b).map PyData.int)) := by rw [q_slL, cut_takeN]
          have l1 : ((iota m).drop a).length = m.toNat - a := by rw [List.length_drop, il]
          have l2 : ((iota m).take a).length ≤ a := List.length_take_le ..
          have l3 : ((iota m).take b).length ≤ b := List.length_take_le ..
          have d1 : Below m ((iota m).drop a) := fun y hy => ib y (List.mem_of_mem_drop hy)
          have d2 : Below m ((iota m).take a) := fun y hy => ib y (List.mem_of_mem_take hy)
          have d3 : Below m ((iota m).take b) := fun y hy => ib y (List.mem_of_mem_take hy)
          generalize (iota m).drop a = x1 at s1 l1 d1
          generalize (iota m).take a = x2 at s2 l2 d2
          generalize (iota m).take b = x3 at s3 l3 d3
          have p1 : addD (.list (x1.map PyData.int)) (.list (x2.map PyData.int)) = .ok (.list ((x1 ++ x2).map PyData.int)) := by rw [q_addL (by rw [List.length_map, List.length_map, lim_eq]; omega), List.map_append]
          have p2 : addD (.list ((x1 ++ x2).map PyData.int)) (.list (x3.map PyData.int)) = .ok (.list (((x1 ++ x2) ++ x3).map PyData.int)) := by rw [q_addL (by rw [List.length_map, List.length_map, List.length_append, lim_eq]; omega), List.map_append (l₁ := x1 ++ x2)]
          refine ⟨(x1 ++ x2) ++ x3, some (false, .int (a : Int)), fun y hy => ?_, by rw [List.length_append, List.length_append]; omega, ?_⟩
          · rcases List.mem_append.mp hy with hy | hy
            · rcases List.mem_append.mp hy with hy | hy
              · exact d1 y hy
              · exact d2 y hy
            · exact d3 y hy
          · simp [hg, e3, e4, e5, s1, s2, s3, p1, p2, -q_slL, -List.map_append, -List.append_assoc]
        · refine ⟨iota m, j9, ib, by omega, ?_⟩
          simp [hp]
      refine stp_seq st ?_
      have e6 := q_div (i := near) (j := 11) (by decide) (wide_small (by decide) (by decide))
      have e7 := q_mod (i := near / 11) (j := 6) (by decide)
      obtain ⟨l', lb', ll', st'⟩ : ∃ (l' : List Int), Below m l' ∧ l'.length ≤ 5 ∧ (sIf (tB' (e2 eqD (e2 modD (e2 divD (eVar 7) (eC (.int 11))) (eC (.int 6))) (eC (.int 0))))
          (sSet 8 (eSl (eVar 8) (ePart (eC (.int 1))) eNoPart))
          sNil) [some (false, S), some (false, cr ws), some (false, .int c1), some (true, .list (us.map PyData.int)), some (true, .list (wy.map dPair)), some (false, .int (i : Int)), some (false, .int m), some (false, .int near), some (false, .list (l.map PyData.int)), k9] = .ok (.nx [some (false, S), some (false, cr ws), some (false, .int c1), some (true, .list (us.map PyData.int)), some (true, .list (wy.map dPair)), some (false, .int (i : Int)), some (false, .int m), some (false, .int near), some (false, .list (l'.map PyData.int)), k9]) := by
        have s1 : slD (.list (l.map PyData.int)) (some 1) none = .ok (.list ((l.drop 1).map PyData.int)) := by rw [q_slL]; exact congrArg (fun z => Rs.ok (PyData.list z)) (cut_dropN l 1)
        by_cases h6 : near / 11 % 6 = 0
        · have hb6 : (near / 11 % 6 == 0) = true := beq_iff_eq.mpr h6
          exact ⟨l.drop 1, fun y hy => lb y (List.mem_of_mem_drop hy), by rw [List.length_drop]; omega, by simp [e6, e7, hb6, s1, -q_slL, -List.map_drop, -List.drop_one]⟩
        · have hb6 : (near / 11 % 6 == 0) = false := beq_eq_false_iff_ne.mpr h6
          exact ⟨l, lb, ll, by simp [e6, e7, hb6]⟩
      refine stp_seq st' ?_
      have ap1 : appM (us.map PyData.int) [.int (l'.length : Int)] = .ok ((us ++ [(l'.length : Int)]).map PyData.int) := by
        rw [q_app (by rw [List.length_map, lim_eq]; omega), List.map_append]
        rfl
      have ap2 : appM (wy.map dPair) [.tuple [.int (i : Int), cr l']] = .ok ((wy ++ [((i : Int), l')]).map dPair) := by
        rw [q_app (by rw [List.length_map, lim_eq]; omega), List.map_append]
        rfl
      have ln8 : lenD [.list (l'.map PyData.int)] = .ok (.int (l'.length : Int)) := by show Rs.ok (PyData.int ((l'.map PyData.int).length : Int)) = _; rw [List.length_map]
      refine stp_seq (ρ' := [some (false, S), some (false, cr ws), some (false, .int c1), some (true, .list ((us ++ [(l'.length : Int)]).map PyData.int)), some (true, .list (wy.map dPair)), some (false, .int (i : Int)), some (false, .int m), some (false, .int near), some (false, .list (l'.map PyData.int)), k9]) (by simp [ln8, ap1, -q_lenL, -List.map_append]) ?_
      refine stp_of (ρ := [some (false, S), some (false, cr ws), some (false, .int c1), some (true, .list ((us ++ [(l'.length : Int)]).map PyData.int)), some (true, .list ((wy ++ [((i : Int), l')]).map dPair)), some (false, .int (i : Int)), some (false, .int m), some (false, .int near), some (false, .list (l'.map PyData.int)), k9]) (by simp [ap2, -List.map_append]) ⟨_, _, _, _, _, _, _, grown_next g hm lb' ll', rfl⟩
    · intro ρ' ⟨us, wy, j5, j6, j7, j8, j9, g, hρ⟩
      subst hρ
      rw [enumG_len, List.length_map] at g
      refine ret_R (d := .tuple [cr ws, cr us, dWay wy]) (by simp [dWay]) ⟨ws, us, _, rfl, .inr ⟨wy, rfl, grown_way g⟩, by omega, w0, by have := g.ul; omega, g.ub⟩
theorem due_iff {ws us : List Int} {wy : List (Int × List Int)} (hw : Small ws) (ok : WayOk ws us wy) : ((dedI (wy.map Prod.fst)).length = wy.length ∧ ∀ (m : Nat) p x, wy[m]? = some p → ws[m]? = some x → ((dedI p.2).length : Int) = x) ↔ SingleW ws wy wy.length := by
  have wl := ok.1
  constructor
  · rintro ⟨h1, h2⟩
    refine ⟨nodup_trays.mp (dedI_eq.mp (by rw [List.length_map]; exact h1)), fun m p x hm hp hx => ?_⟩
    have x0 := (hw x (List.mem_of_getElem? hx)).1
    exact (ded_all (ok.2 m p x hp hx).2.2.2 x0).mp (by have := h2 m p x hp hx; omega)
  · intro s
    refine ⟨by have := dedI_eq.mpr (nodup_trays.mpr s.t); rw [List.length_map] at this; exact this, fun m p x hp hx => ?_⟩
    have x0 := (hw x (List.mem_of_getElem? hx)).1
    have a4 := (ok.2 m p x hp hx).2.2.2
    have h1 := (ded_all a4 x0).mpr (s.w m p x (List.getElem?_eq_some_iff.mp hp).1 hp hx)
    have h2 := sub_len (dedI_nodup p.2) (r := iota x) fun z hz => mem_iotaI.mpr (a4 z (dedI_mem.mp hz))
    rw [iota_len] at h2
    omega
theorem law_true (ns : List Int) (h : ns.length ≤ 63) : F_law_v37 [scrD (ns.map PyData.int)] = .ok (.bool true) := by
  obtain ⟨D, eD, ws, us, A, rfl, hA, wl, wb, ul, ub⟩ := law_scene ns h
  generalize scrD (ns.map PyData.int) = S at eD
  have sw : Small ws := fun x hx => ⟨(wb x hx).1, by have := (wb x hx).2; omega⟩
  unfold F_law_v37
  refine fn_E (ρ := [some (false, S), none, none, none, none, none, none, none, none, none, none, none]) rfl ?_
  refine seq_R (ρ' := [some (false, S), some (false, cr ws), some (false, cr us), some (false, A), none, none, none, none, none, none, none, none]) (by simp [eD]) ?_
  rcases hA with rfl | ⟨wy, rfl, ok⟩
  · exact seq_Q (d := .bool true) (by simp) rfl
  have isn : isNoneD (dWay wy) = false := rfl
  have wyl := ok.1
  have h5 : ∀ p ∈ wy, p.2.length ≤ 4000 := fun p hp => by
    have fi := fst_in ok hp
    have := ub _ (List.mem_of_getElem? (pick_in fi.1 fi.2.1))
    omega
  obtain ⟨d, ed, hd⟩ := one_to_one_ok sw (by omega) ok h5
  have lt : lenD [.list ((wy.map Prod.fst).map PyData.int)] = .ok (.int (wy.length : Int)) := by show Rs.ok (PyData.int (((wy.map Prod.fst).map PyData.int).length : Int)) = _; rw [List.length_map, List.length_map]
  have ls : lenSetLD (.list ((wy.map Prod.fst).map PyData.int)) = .ok (.int ((dedI (wy.map Prod.fst)).length : Nat)) := by
    show (match asInts ((wy.map Prod.fst).map PyData.int) with
      | some ns => @ite _ (ns.length ≤ 4000) (Classical.propDecidable _) (Rs.ok (PyData.int ((dedI ns).length : Nat))) .bad
      | none => .bad) = _
    rw [asInts_map]
    exact if_pos (by rw [List.length_map]; omega)
  have lf := lc_mapE (enc := dPair) (out := PyData.int) (h := Prod.fst) (xs := wy) (bd := bd1 (gT 2 (gsC (gN 6) (gsC (gN 7) gsN))) tY (eVar 6) [some (false, S), some (false, cr ws), some (false, cr us), some (false, dWay wy), some (false, d), none, none, none, none, none, none, none]) (fun p hp => by simp [dPair])
  refine seq_R (ρ' := [some (false, S), some (false, cr ws), some (false, cr us), some (false, dWay wy), none, none, none, none, none, none, none, none]) (by simp [isn]) ?_
  refine seq_R (ρ' := [some (false, S), some (false, cr ws), some (false, cr us), some (false, dWay wy), some (false, d), none, none, none, none, none, none, none]) (by simp [ed]) ?_
  refine seq_R (ρ' := [some (false, S), some (false, cr ws), some (false, cr us), some (false, dWay wy), some (false, d), some (false, .list ((wy.map Prod.fst).map PyData.int)), none, none, none, none, none, none]) ?_ ?_
  · rw [z_set, z_L, z_lLc]
    show (((cap (lcAll (bd1 (gT 2 (gsC (gN 6) (gsC (gN 7) gsN))) tY (eVar 6) [some (false, S), some (false, cr ws), some (false, cr us), some (false, dWay wy), some (false, d), none, none, none, none, none, none, none]) (wy.map dPair))).bind _).bind _) = _
    rw [lf, cap_le (by rw [List.length_map, List.length_map, lim_eq]; omega)]
    rfl
  generalize hL : PyData.list ((wy.map Prod.fst).map PyData.int) = L5 at lt ls
  refine seq_R (ρ' := [some (false, S), some (false, cr ws), some (false, cr us), some (false, dWay wy), some (false, d), some (false, L5), none, none, some (false, .bool (((dedI (wy.map Prod.fst)).length : Int) == (wy.length : Int))), none, none, none]) (by simp [ls, lt]) ?_
  refine for_R (ds := zipD (ws.map PyData.int) (wy.map dPair)) (by simp [dWay]) (fun i ρ => ∃ (b : Bool) (j6 j7 j9 : Option (Bool × PyData)), (b = true ↔ (dedI (wy.map Prod.fst)).length = wy.length ∧ ∀ (m : Nat) p x, m < i → wy[m]? = some p → ws[m]? = some x → ((dedI p.2).length : Int) = x) ∧ ρ = [some (false, S), some (false, cr ws), some (false, cr us), some (false, dWay wy), some (false, d), some (false, L5), j6, j7, some (false, .bool b), j9, none, none]) ⟨_, none, none, none, by rw [beq_iff_eq]; exact ⟨fun h => ⟨by omega, fun m p x hm => absurd hm (Nat.not_lt_zero _)⟩, fun h => by have := h.1; omega⟩, rfl⟩ ?_ ?_
  · intro i dd ρ hdd ⟨b, j6, j7, j9, hb, hρ⟩
    subst hρ
    obtain ⟨x', p', hx', hp', rfl⟩ := zipD_get hdd
    obtain ⟨x, hx, rfl⟩ := map_get' hx'
    obtain ⟨p, hp, rfl⟩ := map_get' hp'
    refine stp_turn (ρ' := [some (false, S), some (false, cr ws), some (false, cr us), some (false, dWay wy), some (false, d), some (false, L5), some (false, .int p.1), some (false, cr p.2), some (false, .bool b), some (false, .int x), none, none]) (by simp [dPair]) ?_
    have l1 := q_lenSet (h5 p (List.mem_of_getElem? hp))
    have step : (b && (((dedI p.2).length : Int) == x)) = true ↔ (dedI (wy.map Prod.fst)).length = wy.length ∧ ∀ (m : Nat) p x, m < i + 1 → wy[m]? = some p → ws[m]? = some x → ((dedI p.2).length : Int) = x := by
      rw [Bool.and_eq_true, hb, beq_iff_eq]
      constructor
      · rintro ⟨⟨h1, h2⟩, h3⟩
        refine ⟨h1, fun m q y hm hq hy => ?_⟩
        by_cases hmi : m = i
        · subst hmi
          rw [hp] at hq
          rw [hx] at hy
          cases hq
          cases hy
          exact h3
        · exact h2 m q y (by omega) hq hy
      · rintro ⟨h1, h2⟩
        exact ⟨⟨h1, fun m q y hm hq hy => h2 m q y (by omega) hq hy⟩, h2 i p x (by omega) hp hx⟩
    refine stp_of (ρ := [some (false, S), some (false, cr ws), some (false, cr us), some (false, dWay wy), some (false, d), some (false, L5), some (false, .int p.1), some (false, cr p.2), some (false, .bool (b && (((dedI p.2).length : Int) == x))), some (false, .int x), none, none]) ?_ ⟨_, _, _, _, step, rfl⟩
    cases b with
    | true => simp [l1]
    | false => simp
  · intro ρ' ⟨b, j6, j7, j9, hb, hρ⟩
    subst hρ
    rw [zipD_len, List.length_map, List.length_map, ← wyl, Nat.min_self] at hb
    have hb : b = true ↔ SingleW ws wy wy.length := hb.trans (Iff.trans ⟨fun h => ⟨h.1, fun m p x hp hx => h.2 m p x (List.getElem?_eq_some_iff.mp hp).1 hp hx⟩, fun h => ⟨h.1, fun m p x _ hp hx => h.2 m p x hp hx⟩⟩ (due_iff sw ok))
    have it : ∀ l : List PyData, isiD "tuple" (.tuple l) = .ok (.bool true) := fun _ => by
      unfold isiD
      rfl
    have sh : ∀ x : Str, PyData.strOk x = true → SeqAt.shaped (.str x) = true := fun x hx => (gd_str (n := 0) hx).sh (by decide)
    rcases hd with ⟨rfl, hs⟩ | hm
    · have b1 : b = true := hb.mpr hs
      subst b1
      have id := it [.str "one to one"]
      have l1 : lenD [.tuple [.str "one to one"]] = .ok (.int 1) := rfl
      have ne1 : neD (.tuple [.str "one to one"]) (.tuple [.str "one to one"]) = .ok (.bool false) := ne_same (gd_tup (n := 0) fun d hd => by rw [List.mem_singleton.mp hd]; exact gd_str (by decide +kernel)) (by decide)
      refine seq_R (ρ' := [some (false, S), some (false, cr ws), some (false, cr us), some (false, dWay wy), some (false, .tuple [.str "one to one"]), some (false, L5), j6, j7, some (false, .bool true), j9, none, none]) (by simp [id, l1, -q_lenT]) ?_
      have cl := cnt2_le wb
      have lfl : F_law_fillings [cr ws, .int 2] = .ok (.list ((fills 2 ws ws.length).map dPair)) := law_fillings (n := 2) (fun x hx => ⟨(wb x hx).1, by have := (wb x hx).2; omega⟩) (by omega) (by decide) (by show cnt 2 ws ≤ 2000; omega)
      have fl : ((fills 2 ws ws.length).length : Int) = cnt 2 ws := by
        have := fills_len (n := 2) (ws := ws) (Nat.le_refl _)
        rw [List.take_length] at this
        exact this
      have lcf := lc_mapE (enc := dPair) (out := dPair) (h := stepW wy) (xs := fills 2 ws ws.length) (bd := bd1 (gN 11) tY (eCall F_law_turned (aCons (eVar 3) (aCons (eVar 11) aNil))) [some (false, S), some (false, cr ws), some (false, cr us), some (false, dWay wy), some (false, .tuple [.str "one to one"]), some (false, L5), j6, j7, some (false, .bool true), j9, none, none]) (fun p hp => by
        have := (turned_way ok (fills_ok sw hp) (fun v hv => by have := ub v hv; omega)).2
        simp [this])
      have pl : ((fills 2 ws ws.length).map (stepW wy)).length ≤ 99 := by rw [List.length_map]; omega
      have lsp := q_lenSetP pl (own_hash (fills_apart sw ok hs) fun q hq => by
        obtain ⟨p, hp, rfl⟩ := List.mem_map.mp hq
        exact step_dom ok ul ub (fills_ok sw hp))
      have lnp : lenD [.list (((fills 2 ws ws.length).map (stepW wy)).map dPair)] = .ok (.int (((fills 2 ws ws.length).map (stepW wy)).length : Int)) := by show Rs.ok (PyData.int ((((fills 2 ws ws.length).map (stepW wy)).map dPair).length : Int)) = _; rw [List.length_map]
      have inner : Ret ((sSeq (sIf (tB' (e2 neD (eVar 4) (eTup (aCons (eC (.str "one to one")) aNil))))
          (sRet (eC (.bool false)))
          sNil)
          (sSeq (sSet 10 (eL (lLc [11] (iItems (eCall F_law_fillings (aCons (eVar 1) (aCons (eC (.int 2)) aNil)))) (gN 11) tY (eCall F_law_turned (aCons (eVar 3) (aCons (eVar 11) aNil))))))
          (sRet (e2 eqD (e1 lenSetPD (eVar 10)) (eCB lenD (aCons (eVar 10) aNil)))))) [some (false, S), some (false, cr ws), some (false, cr us), some (false, dWay wy), some (false, .tuple [.str "one to one"]), some (false, L5), j6, j7, some (false, .bool true), j9, none, none]) (· = .bool true) := by
        refine seq_R (ρ' := [some (false, S), some (false, cr ws), some (false, cr us), some (false, dWay wy), some (false, .tuple [.str "one to one"]), some (false, L5), j6, j7, some (false, .bool true), j9, none, none]) (by simp [ne1]) ?_
        refine seq_R (ρ' := [some (false, S), some (false, cr ws), some (false, cr us), some (false, dWay wy), some (false, .tuple [.str "one to one"]), some (false, L5), j6, j7, some (false, .bool true), j9, some (false, .list (((fills 2 ws ws.length).map (stepW wy)).map dPair)), none]) ?_ ?_
        · have ci : ∀ ρ : Ev, ρ = [some (false, S), some (false, cr ws), some (false, cr us), some (false, dWay wy), some (false, .tuple [.str "one to one"]), some (false, L5), j6, j7, some (false, .bool true), j9, none, none] → (iItems (eCall F_law_fillings (aCons (eVar 1) (aCons (eC (.int 2)) aNil)))) ρ = .ok ((fills 2 ws ws.length).map dPair) := fun ρ hρ => by
            subst hρ
            simp [lfl]
          rw [z_set, z_L, z_lLc, ci _ rfl, bind_ok']
          show (((cap (lcAll (bd1 (gN 11) tY (eCall F_law_turned (aCons (eVar 3) (aCons (eVar 11) aNil))) [some (false, S), some (false, cr ws), some (false, cr us), some (false, dWay wy), some (false, .tuple [.str "one to one"]), some (false, L5), j6, j7, some (false, .bool true), j9, none, none]) ((fills 2 ws ws.length).map dPair))).bind _).bind _) = _
          rw [lcf, cap_le (by rw [List.length_map, lim_eq]; omega)]
          rfl
        · generalize hG : PyData.list (((fills 2 ws ws.length).map (stepW wy)).map dPair) = G10 at lsp lnp
          exact ret_R (d := .bool true) (by simp [lsp, lnp]) rfl
      obtain ⟨d0, e0, h0⟩ := inner
      have h0 : d0 = .bool true := h0
      subst h0
      refine seq_Q (d := .bool true) ?_ rfl
      have tr : tTr (eVar 8) [some (false, S), some (false, cr ws), some (false, cr us), some (false, dWay wy), some (false, .tuple [.str "one to one"]), some (false, L5), j6, j7, some (false, .bool true), j9, none, none] = .ok true := rfl
      rw [z_sIf, tr, bind_ok']
      exact e0
    · obtain ⟨na, _⟩ := merged_not hm
      have b1 : b = false := by
        cases b with
        | false => rfl
        | true => exact absurd (hb.mp rfl) na
      subst b1
      obtain ⟨x, y, rfl, ne, fx, fy, es⟩ := merged_two sw ok hm
      have tx := (turned_way ok fx (fun v hv => by have := ub v hv; omega)).2
      have ty := (turned_way ok fy (fun v hv => by have := ub v hv; omega)).2
      have kx := filling_yes sw (by omega) fx
      have ky := filling_yes sw (by omega) fy
      have i0 : ixD (.tuple [.str "merged", dPair x, dPair y]) (.int 0) = .ok (.str "merged") := rfl
      have i1 : ixD (.tuple [.str "merged", dPair x, dPair y]) (.int 1) = .ok (dPair x) := rfl
      have i2 : ixD (.tuple [.str "merged", dPair x, dPair y]) (.int 2) = .ok (dPair y) := rfl
      have l3 : lenD [.tuple [.str "merged", dPair x, dPair y]] = .ok (.int 3) := rfl
      have id := it [.str "merged", dPair x, dPair y]
      generalize PyData.tuple [.str "merged", dPair x, dPair y] = d at i0 i1 i2 l3 id
      have nm : neD (.str "merged") (.str "merged") = .ok (.bool false) := ne_same (n := 0) (gd_str (by decide +kernel)) (by decide)
      have ep : eqD (dPair x) (dPair y) = .ok (.bool false) := by rw [eqD_pair, decide_eq_false ne]
      have eq2 : eqD (dPair (stepW wy x)) (dPair (stepW wy y)) = .ok (.bool true) := by rw [eqD_pair, decide_eq_true es]
      refine seq_R (ρ' := [some (false, S), some (false, cr ws), some (false, cr us), some (false, dWay wy), some (false, d), some (false, L5), j6, j7, some (false, .bool false), j9, none, none]) (by simp [id, l3]) ?_
      refine seq_R (ρ' := [some (false, S), some (false, cr ws), some (false, cr us), some (false, dWay wy), some (false, d), some (false, L5), j6, j7, some (false, .bool false), j9, none, none]) (by
        have tr : tTr (eVar 8) [some (false, S), some (false, cr ws), some (false, cr us), some (false, dWay wy), some (false, d), some (false, L5), j6, j7, some (false, .bool false), j9, none, none] = .ok false := rfl
        rw [z_sIf, tr, bind_ok']
        rfl) ?_
      refine seq_R (ρ' := [some (false, S), some (false, cr ws), some (false, cr us), some (false, dWay wy), some (false, d), some (false, L5), j6, j7, some (false, .bool false), j9, none, none]) (by simp [i0, i1, i2, l3, nm, ep]) ?_
      refine seq_R (ρ' := [some (false, S), some (false, cr ws), some (false, cr us), some (false, dWay wy), some (false, d), some (false, L5), j6, j7, some (false, .bool false), j9, none, none]) (by simp [i1, i2, kx, ky]) ?_
      exact ret_R (d := .bool true) (by simp [i1, i2, tx, ty, eq2]) rfl
set_option maxHeartbeats 4000000 in
theorem all_mk {l : PySem.W.OpenLaw} {w : World} {K : PySem.W.Frag} {h : Heap} {mg : Str → Option Value} {fa f1 f2 f3 f4 f5 f6 f7 f8 f9 f10 f11 f12 f13 f14 f15  : Addr} (X : K.In h) (G : h.Ns mainGlobals mg) (hfa : mg "law" = some (.ref fa))
    {od1 an1 od2 an2 od3 an3 od4 an4 od5 an5 od6 an6 od7 an7 od8 an8 od9 an9 od10 an10 od11 an11 od12 an12 od13 an13 od14 an14 od15 an15 : Option Addr} {sl1 sl2 sl3 sl4 sl5 sl6 sl7 sl8 sl9 sl10 sl11 sl12 sl13 sl14 sl15 : Array (Option Value)} {oc1 kV1 dc1 pm1 cd1 ct1 oc2 kV2 dc2 pm2 cd2 ct2 oc3 kV3 dc3 pm3 cd3 ct3 oc4 kV4 dc4 pm4 cd4 ct4 oc5 kV5 dc5 pm5 cd5 ct5 oc6 kV6 dc6 pm6 cd6 ct6 oc7 kV7 dc7 pm7 cd7 ct7 oc8 kV8 dc8 pm8 cd8 ct8 oc9 kV9 dc9 pm9 cd9 ct9 oc10 kV10 dc10 pm10 cd10 ct10 oc11 kV11 dc11 pm11 cd11 ct11 oc12 kV12 dc12 pm12 cd12 ct12 oc13 kV13 dc13 pm13 cd13 ct13 oc14 kV14 dc14 pm14 cd14 ct14 oc15 kV15 dc15 pm15 cd15 ct15 : Value} {t_MOST_TRAYS t_MOST_WELLS : Tok}
    (a1 : PySem.W.nsIn K mainGlobals "marked" = some (some (.ref f1))) (l1 : K.lookup f1 = some ⟨oc1, od1, .func (PySem.W.fnOf "marked" "marked" (defArgs s_marked) (defBody s_marked) (defScope s_marked) .none kV1 dc1 pm1 an1 cd1 ct1), sl1⟩) (c1 : PySem.W.codeIn K cd1 "marked" = true) (k1 : PySem.W.keepIn K (.ref f1) = true)
    (a2 : PySem.W.nsIn K mainGlobals "one_to_one" = some (some (.ref f2))) (l2 : K.lookup f2 = some ⟨oc2, od2, .func (PySem.W.fnOf "one_to_one" "one_to_one" (defArgs s_one_to_one) (defBody s_one_to_one) (defScope s_one_to_one) .none kV2 dc2 pm2 an2 cd2 ct2), sl2⟩) (c2 : PySem.W.codeIn K cd2 "one_to_one" = true) (k2 : PySem.W.keepIn K (.ref f2) = true)
    (a3 : PySem.W.nsIn K mainGlobals "is_whole" = some (some (.ref f3))) (l3 : K.lookup f3 = some ⟨oc3, od3, .func (PySem.W.fnOf "is_whole" "is_whole" (defArgs s_is_whole) (defBody s_is_whole) (defScope s_is_whole) .none kV3 dc3 pm3 an3 cd3 ct3), sl3⟩) (c3 : PySem.W.codeIn K cd3 "is_whole" = true) (k3 : PySem.W.keepIn K (.ref f3) = true)
    (a4 : PySem.W.nsIn K mainGlobals "is_below" = some (some (.ref f4))) (l4 : K.lookup f4 = some ⟨oc4, od4, .func (PySem.W.fnOf "is_below" "is_below" (defArgs s_is_below) (defBody s_is_below) (defScope s_is_below) .none kV4 dc4 pm4 an4 cd4 ct4), sl4⟩) (c4 : PySem.W.codeIn K cd4 "is_below" = true) (k4 : PySem.W.keepIn K (.ref f4) = true)
    (a5 : PySem.W.nsIn K mainGlobals "is_pair" = some (some (.ref f5))) (l5 : K.lookup f5 = some ⟨oc5, od5, .func (PySem.W.fnOf "is_pair" "is_pair" (defArgs s_is_pair) (defBody s_is_pair) (defScope s_is_pair) .none kV5 dc5 pm5 an5 cd5 ct5), sl5⟩) (c5 : PySem.W.codeIn K cd5 "is_pair" = true) (k5 : PySem.W.keepIn K (.ref f5) = true)
    (a6 : PySem.W.nsIn K mainGlobals "is_crate" = some (some (.ref f6))) (l6 : K.lookup f6 = some ⟨oc6, od6, .func (PySem.W.fnOf "is_crate" "is_crate" (defArgs s_is_crate) (defBody s_is_crate) (defScope s_is_crate) .none kV6 dc6 pm6 an6 cd6 ct6), sl6⟩) (c6 : PySem.W.codeIn K cd6 "is_crate" = true) (k6 : PySem.W.keepIn K (.ref f6) = true)
    (a7 : PySem.W.nsIn K mainGlobals "fits" = some (some (.ref f7))) (l7 : K.lookup f7 = some ⟨oc7, od7, .func (PySem.W.fnOf "fits" "fits" (defArgs s_fits) (defBody s_fits) (defScope s_fits) .none kV7 dc7 pm7 an7 cd7 ct7), sl7⟩) (c7 : PySem.W.codeIn K cd7 "fits" = true) (k7 : PySem.W.keepIn K (.ref f7) = true)
    (a8 : PySem.W.nsIn K mainGlobals "is_filling" = some (some (.ref f8))) (l8 : K.lookup f8 = some ⟨oc8, od8, .func (PySem.W.fnOf "is_filling" "is_filling" (defArgs s_is_filling) (defBody s_is_filling) (defScope s_is_filling) .none kV8 dc8 pm8 an8 cd8 ct8), sl8⟩) (c8 : PySem.W.codeIn K cd8 "is_filling" = true) (k8 : PySem.W.keepIn K (.ref f8) = true)
    (a9 : PySem.W.nsIn K mainGlobals "_law_cell" = some (some (.ref f9))) (l9 : K.lookup f9 = some ⟨oc9, od9, .func (PySem.W.fnOf "_law_cell" "_law_cell" (defArgs s__law_cell) (defBody s__law_cell) (defScope s__law_cell) .none kV9 dc9 pm9 an9 cd9 ct9), sl9⟩) (c9 : PySem.W.codeIn K cd9 "_law_cell" = true) (k9 : PySem.W.keepIn K (.ref f9) = true)
    (a10 : PySem.W.nsIn K mainGlobals "_law_crate" = some (some (.ref f10))) (l10 : K.lookup f10 = some ⟨oc10, od10, .func (PySem.W.fnOf "_law_crate" "_law_crate" (defArgs s__law_crate) (defBody s__law_crate) (defScope s__law_crate) .none kV10 dc10 pm10 an10 cd10 ct10), sl10⟩) (c10 : PySem.W.codeIn K cd10 "_law_crate" = true) (k10 : PySem.W.keepIn K (.ref f10) = true)
    (a11 : PySem.W.nsIn K mainGlobals "_law_way" = some (some (.ref f11))) (l11 : K.lookup f11 = some ⟨oc11, od11, .func (PySem.W.fnOf "_law_way" "_law_way" (defArgs s__law_way) (defBody s__law_way) (defScope s__law_way) .none kV11 dc11 pm11 an11 cd11 ct11), sl11⟩) (c11 : PySem.W.codeIn K cd11 "_law_way" = true) (k11 : PySem.W.keepIn K (.ref f11) = true)
    (a12 : PySem.W.nsIn K mainGlobals "_law_turned" = some (some (.ref f12))) (l12 : K.lookup f12 = some ⟨oc12, od12, .func (PySem.W.fnOf "_law_turned" "_law_turned" (defArgs s__law_turned) (defBody s__law_turned) (defScope s__law_turned) .none kV12 dc12 pm12 an12 cd12 ct12), sl12⟩) (c12 : PySem.W.codeIn K cd12 "_law_turned" = true) (k12 : PySem.W.keepIn K (.ref f12) = true)
    (a13 : PySem.W.nsIn K mainGlobals "_law_fillings" = some (some (.ref f13))) (l13 : K.lookup f13 = some ⟨oc13, od13, .func (PySem.W.fnOf "_law_fillings" "_law_fillings" (defArgs s__law_fillings) (defBody s__law_fillings) (defScope s__law_fillings) .none kV13 dc13 pm13 an13 cd13 ct13), sl13⟩) (c13 : PySem.W.codeIn K cd13 "_law_fillings" = true) (k13 : PySem.W.keepIn K (.ref f13) = true)
    (a14 : PySem.W.nsIn K mainGlobals "_law_scene" = some (some (.ref f14))) (l14 : K.lookup f14 = some ⟨oc14, od14, .func (PySem.W.fnOf "_law_scene" "_law_scene" (defArgs s__law_scene) (defBody s__law_scene) (defScope s__law_scene) .none kV14 dc14 pm14 an14 cd14 ct14), sl14⟩) (c14 : PySem.W.codeIn K cd14 "_law_scene" = true) (k14 : PySem.W.keepIn K (.ref f14) = true)
    (a15 : PySem.W.nsIn K mainGlobals "law" = some (some (.ref f15))) (l15 : K.lookup f15 = some ⟨oc15, od15, .func (PySem.W.fnOf "law" "law" (defArgs s_law) (defBody s_law) (defScope s_law) .none kV15 dc15 pm15 an15 cd15 ct15), sl15⟩) (c15 : PySem.W.codeIn K cd15 "law" = true) (k15 : PySem.W.keepIn K (.ref f15) = true)
    (w_MOST_TRAYS : PySem.W.nsIn K mainGlobals "MOST_TRAYS" = some (some (.int 60 t_MOST_TRAYS)))
    (w_MOST_WELLS : PySem.W.nsIn K mainGlobals "MOST_WELLS" = some (some (.int 12 t_MOST_WELLS)))
    (z_all : PySem.W.nsIn K mainGlobals "all" = some none)
    (z_bool : PySem.W.nsIn K mainGlobals "bool" = some none)
    (z_enumerate : PySem.W.nsIn K mainGlobals "enumerate" = some none)
    (z_int : PySem.W.nsIn K mainGlobals "int" = some none)
    (z_isinstance : PySem.W.nsIn K mainGlobals "isinstance" = some none)
    (z_len : PySem.W.nsIn K mainGlobals "len" = some none)
    (z_list : PySem.W.nsIn K mainGlobals "list" = some none)
    (z_range : PySem.W.nsIn K mainGlobals "range" = some none)
    (z_set : PySem.W.nsIn K mainGlobals "set" = some none)
    (z_tuple : PySem.W.nsIn K mainGlobals "tuple" = some none)
    (z_zip : PySem.W.nsIn K mainGlobals "zip" = some none)
    : ∃ fd : FuncData, (∀ (s : Shared) (v : Value), BindsTo s fd ⟨[v], []⟩ [("script", v)]) ∧ ∀ base : Heap, K.In base → base.Ns mainGlobals mg → FnOk l.prog w K mg base (L2.CX l.prog w) 5 fa fd ["script"] (spLawD K) := by
  have e := hfa.symm.trans (PySem.W.mg_of X G a15)
  cases e
  have F1 := fun_mk (st := s_marked) l1 c1 k1
  have F2 := fun_mk (st := s_one_to_one) l2 c2 k2
  have F3 := fun_mk (st := s_is_whole) l3 c3 k3
  have F4 := fun_mk (st := s_is_below) l4 c4 k4
  have F5 := fun_mk (st := s_is_pair) l5 c5 k5
  have F6 := fun_mk (st := s_is_crate) l6 c6 k6
  have F7 := fun_mk (st := s_fits) l7 c7 k7
  have F8 := fun_mk (st := s_is_filling) l8 c8 k8
  have F9 := fun_mk (st := s__law_cell) l9 c9 k9
  have F10 := fun_mk (st := s__law_crate) l10 c10 k10
  have F11 := fun_mk (st := s__law_way) l11 c11 k11
  have F12 := fun_mk (st := s__law_turned) l12 c12 k12
  have F13 := fun_mk (st := s__law_fillings) l13 c13 k13
  have F14 := fun_mk (st := s__law_scene) l14 c14 k14
  have F15 := fun_mk (st := s_law) l15 c15 k15
  refine ⟨PySem.W.fnOf "law" "law" (defArgs s_law) (defBody s_law) (defScope s_law) .none kV15 dc15 pm15 an15 cd15 ct15, fun s v => .of_eq rfl, fun base _ _ => ?_⟩
  have h_marked := fd_marked (G := ⟨l.prog, w, K, mg, base, clsOf mg⟩) F1 (F1.binds (ps := ["crate", "tray", "wells"]) fun _ _ _ _ _ _ us hl => match us, hl with | [_, _, _], _ => rfl) (PySem.W.mg_of X G a1) (PySem.W.mg_none_of X G z_range) (PySem.W.mg_none_of X G z_tuple)
  have h_one_to_one := fd_one_to_one (G := ⟨l.prog, w, K, mg, base, clsOf mg⟩) F2 (F2.binds (ps := ["one", "way"]) fun _ _ _ _ _ _ us hl => match us, hl with | [_, _], _ => rfl) (PySem.W.mg_of X G a2) h_marked (PySem.W.mg_none_of X G z_enumerate) (PySem.W.mg_none_of X G z_range)
  have h_is_whole := fd_is_whole (G := ⟨l.prog, w, K, mg, base, clsOf mg⟩) F3 (F3.binds (ps := ["thing"]) fun _ _ _ _ _ _ us hl => match us, hl with | [_], _ => rfl) (PySem.W.mg_of X G a3) (PySem.W.mg_none_of X G z_bool) (PySem.W.mg_none_of X G z_int) (PySem.W.mg_none_of X G z_isinstance)
  have h_is_below := fd_is_below (G := ⟨l.prog, w, K, mg, base, clsOf mg⟩) F4 (F4.binds (ps := ["thing", "bound"]) fun _ _ _ _ _ _ us hl => match us, hl with | [_, _], _ => rfl) (PySem.W.mg_of X G a4) h_is_whole
  have h_is_pair := fd_is_pair (G := ⟨l.prog, w, K, mg, base, clsOf mg⟩) F5 (F5.binds (ps := ["thing"]) fun _ _ _ _ _ _ us hl => match us, hl with | [_], _ => rfl) (PySem.W.mg_of X G a5) (PySem.W.mg_none_of X G z_isinstance) (PySem.W.mg_none_of X G z_len) (PySem.W.mg_none_of X G z_tuple)
  have h_is_crate := fd_is_crate (G := ⟨l.prog, w, K, mg, base, clsOf mg⟩) F6 (F6.binds (ps := ["thing"]) fun _ _ _ _ _ _ us hl => match us, hl with | [_], _ => rfl) (PySem.W.mg_of X G a6) h_is_below (PySem.W.mg_none_of X G z_all) (PySem.W.mg_none_of X G z_isinstance) (PySem.W.mg_none_of X G z_len) (PySem.W.mg_none_of X G z_tuple) (PySem.W.mg_of X G w_MOST_TRAYS) (PySem.W.mg_of X G w_MOST_WELLS)
  have h_fits := fd_fits (G := ⟨l.prog, w, K, mg, base, clsOf mg⟩) F7 (F7.binds (ps := ["crate", "thing"]) fun _ _ _ _ _ _ us hl => match us, hl with | [_, _], _ => rfl) (PySem.W.mg_of X G a7) h_is_below h_is_pair (PySem.W.mg_none_of X G z_isinstance) (PySem.W.mg_none_of X G z_len) (PySem.W.mg_none_of X G z_tuple)
  have h_is_filling := fd_is_filling (G := ⟨l.prog, w, K, mg, base, clsOf mg⟩) F8 (F8.binds (ps := ["crate", "thing"]) fun _ _ _ _ _ _ us hl => match us, hl with | [_, _], _ => rfl) (PySem.W.mg_of X G a8) h_fits h_is_crate
  have h__law_cell := fd__law_cell (G := ⟨l.prog, w, K, mg, base, clsOf mg⟩) F9 (F9.binds (ps := ["script", "k"]) fun _ _ _ _ _ _ us hl => match us, hl with | [_, _], _ => rfl) (PySem.W.mg_of X G a9) (PySem.W.mg_none_of X G z_len)
  have h__law_crate := fd__law_crate (G := ⟨l.prog, w, K, mg, base, clsOf mg⟩) F10 (F10.binds (ps := ["cell", "trays", "wells"]) fun _ _ _ _ _ _ us hl => match us, hl with | [_, _, _], _ => rfl) (PySem.W.mg_of X G a10) (PySem.W.mg_none_of X G z_range) (PySem.W.mg_none_of X G z_tuple)
  have h__law_way := fd__law_way (G := ⟨l.prog, w, K, mg, base, clsOf mg⟩) F11 (F11.binds (ps := ["cell", "one", "other"]) fun _ _ _ _ _ _ us hl => match us, hl with | [_, _, _], _ => rfl) (PySem.W.mg_of X G a11) (PySem.W.mg_none_of X G z_enumerate) (PySem.W.mg_none_of X G z_len) (PySem.W.mg_none_of X G z_range) (PySem.W.mg_none_of X G z_tuple)
  have h__law_turned := fd__law_turned (G := ⟨l.prog, w, K, mg, base, clsOf mg⟩) F12 (F12.binds (ps := ["way", "filling"]) fun _ _ _ _ _ _ us hl => match us, hl with | [_, _], _ => rfl) (PySem.W.mg_of X G a12) (PySem.W.mg_none_of X G z_tuple)
  have h__law_fillings := fd__law_fillings (G := ⟨l.prog, w, K, mg, base, clsOf mg⟩) F13 (F13.binds (ps := ["crate", "number"]) fun _ _ _ _ _ _ us hl => match us, hl with | [_, _], _ => rfl) (PySem.W.mg_of X G a13) (PySem.W.mg_none_of X G z_enumerate) (PySem.W.mg_none_of X G z_range)
  have h__law_scene := fd__law_scene (G := ⟨l.prog, w, K, mg, base, clsOf mg⟩) F14 (F14.binds (ps := ["script"]) fun _ _ _ _ _ _ us hl => match us, hl with | [_], _ => rfl) (PySem.W.mg_of X G a14) h__law_way h__law_cell h__law_crate (PySem.W.mg_none_of X G z_enumerate) (PySem.W.mg_none_of X G z_len) (PySem.W.mg_none_of X G z_list) (PySem.W.mg_none_of X G z_range) (PySem.W.mg_none_of X G z_tuple)
  exact (ok_law (G := ⟨l.prog, w, K, mg, base, clsOf mg⟩) F15 h__law_turned h_is_filling h__law_fillings h_one_to_one h__law_scene (PySem.W.mg_none_of X G z_isinstance) (PySem.W.mg_none_of X G z_len) (PySem.W.mg_none_of X G z_set) (PySem.W.mg_none_of X G z_tuple) (PySem.W.mg_none_of X G z_zip)).imp (law_imp law_true)
end Tm
open PySem PySem.W PyProof.Rows
set_option maxHeartbeats 0 in
theorem PySem.Challenge.cw_traymap_k26_one_to_one_or_merged_holds : PySem.Challenge.rw_traymap_k26_one_to_one_or_merged.Holds := by
  w_on; o_law; k_head; (case hw => w_witness2)
  k_fill
  refine L2.walk_of (l := PySem.Challenge.rw_traymap_k26_one_to_one_or_merged) (n := 63) (k := 5) (x := "script") (CX := fun w => L2.CX PySem.Challenge.rw_traymap_k26_one_to_one_or_merged.prog w) (sp := fun w => Tm.spLawD _) rfl (by decide) rfl ⟨rfl, by decide, by decide⟩ (fun w h Y => PySem.W.kIn_of Y) ?F (fun _ _ a ns hl _ hS => ⟨a, ns, rfl, hl, hS, fun _ => rfl⟩) (fun _ H s e s' h => Tm.cx_false H s e s' h)
  case F =>
    intro w mg fa h KX G hmg
    refine' Tm.all_mk KX G hmg ?a1 ?l1 ?c1 ?k1 ?a2 ?l2 ?c2 ?k2 ?a3 ?l3 ?c3 ?k3 ?a4 ?l4 ?c4 ?k4 ?a5 ?l5 ?c5 ?k5 ?a6 ?l6 ?c6 ?k6 ?a7 ?l7 ?c7 ?k7 ?a8 ?l8 ?c8 ?k8 ?a9 ?l9 ?c9 ?k9 ?a10 ?l10 ?c10 ?k10 ?a11 ?l11 ?c11 ?k11 ?a12 ?l12 ?c12 ?k12 ?a13 ?l13 ?c13 ?k13 ?a14 ?l14 ?c14 ?k14 ?a15 ?l15 ?c15 ?k15 ?w_MOST_TRAYS ?w_MOST_WELLS ?z_all ?z_bool ?z_enumerate ?z_int ?z_isinstance ?z_len ?z_list ?z_range ?z_set ?z_tuple ?z_zip
    (case a1 => k_is); (case l1 => k_is); (case c1 => k_is); (case k1 => k_is); (case a2 => k_is); (case l2 => k_is); (case c2 => k_is); (case k2 => k_is); (case a3 => k_is); (case l3 => k_is); (case c3 => k_is); (case k3 => k_is); (case a4 => k_is); (case l4 => k_is); (case c4 => k_is); (case k4 => k_is); (case a5 => k_is); (case l5 => k_is); (case c5 => k_is); (case k5 => k_is); (case a6 => k_is); (case l6 => k_is); (case c6 => k_is); (case k6 => k_is); (case a7 => k_is); (case l7 => k_is); (case c7 => k_is); (case k7 => k_is); (case a8 => k_is); (case l8 => k_is); (case c8 => k_is); (case k8 => k_is); (case a9 => k_is); (case l9 => k_is); (case c9 => k_is); (case k9 => k_is); (case a10 => k_is); (case l10 => k_is); (case c10 => k_is); (case k10 => k_is); (case a11 => k_is); (case l11 => k_is); (case c11 => k_is); (case k11 => k_is); (case a12 => k_is); (case l12 => k_is); (case c12 => k_is); (case k12 => k_is); (case a13 => k_is); (case l13 => k_is); (case c13 => k_is); (case k13 => k_is); (case a14 => k_is); (case l14 => k_is); (case c14 => k_is); (case k14 => k_is); (case a15 => k_is); (case l15 => k_is); (case c15 => k_is); (case k15 => k_is); (case w_MOST_TRAYS => k_is); (case w_MOST_WELLS => k_is); (case z_all => k_is); (case z_bool => k_is); (case z_enumerate => k_is); (case z_int => k_is); (case z_isinstance => k_is); (case z_len => k_is); (case z_list => k_is); (case z_range => k_is); (case z_set => k_is); (case z_tuple => k_is); (case z_zip => k_is)
