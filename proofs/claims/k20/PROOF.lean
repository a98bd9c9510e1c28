import PyProof.Rows.All
import Wide.All
import OpenK.AllK
import Wide.FinOn
import HandS.ForMost
import HandS.Wide
import HandS.IsInst
import HandS.Codes
import HandS.AnyAll
import HandS.EndTab
import PyProof.GenCompD
import HandS.TupMul
import HandS.TupAny
import HandS.Exc
import HandS.TryOnly
import HandS.ExcOwn
import HandS.WordsExc
import HandS.ExcIs
import KE.DataCmp
import KE.GoesMore
import HandS.Conv
import HandS.Style
import HandS.WideBits
import HandS.Zip
import KE.KRevSl
import KE.GoesEnum
import KE.KDictZip
import PyProof.StrBlock2
import HandS.Sort
import HandS.Deep
import HandS.SortInts
import HandS.More
import KE.DatumOrd
import HandS.NoneIn
import HandS.SetFor
import HandS.Dict
import PySem.Challenge.RW_traymap_k20_what_parts_two_ways
set_option Elab.async false
set_option linter.all false
set_option maxRecDepth 100000
namespace Tm
open PySem PySem.Spec PyProof.Rows L2
/-! ### what leaves all that stood -/
theorem kp_ext {s t : Shared} (k : Keeps s t) : ∀ b o, s.heap.get? b = some o → t.heap.get? b = some o := by
  obtain ⟨h, tk, rfl, e⟩ := k
  exact e
theorem kp_tr {s t u : Shared} (k : Keeps s t) (k' : Keeps t u) : Keeps s u := by
  obtain ⟨h, tk, rfl, e⟩ := k
  obtain ⟨h', tk', rfl, e'⟩ := k'
  exact ⟨h', tk', rfl, fun b o q => e' b o (e b o q)⟩
theorem kp_tk (s : Shared) (n : Nat) : Keeps s { s with toks := n } := ⟨s.heap, n, rfl, fun _ _ q => q⟩
theorem mod_ext {K : PySem.W.Frag} {mg : Str → Option Value} {h h' : Heap} (m : Mod K mg h) (k : ∀ b o, h.get? b = some o → h'.get? b = some o) : Mod K mg h' := by
  obtain ⟨mb, h1, h2⟩ := m.blt
  exact ⟨m.kin.keeps k, m.glob.keeps k, ⟨mb, h1.keeps k, h2⟩, m.nolimit.keeps k⟩
/-- a word about a heap that stays where it grows -/
def Stays (hm : Heap → Prop) : Prop := ∀ h h' : Heap, (∀ b o, h.get? b = some o → h'.get? b = some o) → hm h → hm h'
/-- e gives what R says, and all that stood is left as it was; whatever frames stand around -/
def Lo (prog : Program) (w : World) (K : PySem.W.Frag) (mg : Str → Option Value) (D : Nat) (env : Env) (hm : Heap → Prop) (e : Expr) (R : Value → Prop) : Prop :=
  ∀ (A : Around) (E : Value → Shared → Prop) (s : Shared), A.handled = none → A.depth ≤ D → Mod K mg s.heap → hm s.heap → wpAny (model prog w) A (eval e env) (fun r t => R r ∧ Keeps s t) E s
section
variable {prog : Program} {w : World} {K : PySem.W.Frag} {mg : Str → Option Value} {D : Nat} {env : Env} {hm : Heap → Prop}
theorem Lo.imp {e : Expr} {R R' : Value → Prop} (h : Lo prog w K mg D env hm e R) (i : ∀ r, R r → R' r) : Lo prog w K mg D env hm e R' := fun A E s h1 h2 h3 h4 =>
  wpAny_mono (h A E s h1 h2 h3 h4) (fun r t q => ⟨i r q.1, q.2⟩) fun _ _ x => x
/-- a name of the frame -/
theorem lo_name {x : Str} {pos : Pos} {v : Value} (hk : env.scope.kind = .function) (hl : env.kindOf x = some .local) (hv : ∀ h, hm h → ∃ m, h.Ns env.locals m ∧ m x = some v) (hd : (x == ("__debug__" : Str)) = false := by decide) :
    Lo prog w K mg D env hm (.Name x pos) (fun r => r = v) := fun A E s _ _ _ h4 => by
  obtain ⟨m, h5, h6⟩ := hv _ h4
  exact wpAny_Name (wpAny_loadName_local hk hl h5 h6 ⟨rfl, kp_tk s s.toks⟩) hd
/-- a name of the module -/
theorem lo_glob {x : Str} {pos : Pos} {v : Value} (hk : env.scope.kind = .function) (hl : env.kindOf x = some .globalImplicit) (hg : env.globals = mainGlobals) (hv : mg x = some v) (hd : (x == ("__debug__" : Str)) = false := by decide) :
    Lo prog w K mg D env hm (.Name x pos) (fun r => r = v) := fun A E s _ _ h3 _ =>
  Calls.Name_function_global hk hl (Calls.loadGlobal_global (by rw [hg]; exact h3.glob) hv ⟨rfl, kp_tk s s.toks⟩) hd
/-- a built-in's name -/
theorem lo_blt {x : Str} {pos : Pos} {v : Value} (hk : env.scope.kind = .function) (hl : env.kindOf x = some .globalImplicit) (hg : env.globals = mainGlobals) (hb : env.builtins = builtinsNs) (hv : mg x = none) (hu : bootBuiltins x = some v)
    (hn : x ≠ "__name__" := by decide) (hd : (x == ("__debug__" : Str)) = false := by decide) : Lo prog w K mg D env hm (.Name x pos) (fun r => r = v) := fun A E s _ _ h3 _ => by
  obtain ⟨mb, h5, h6⟩ := h3.blt
  exact Calls.Name_function_global hk hl (Calls.loadGlobal_builtin (by rw [hg]; exact h3.glob) hv (by rw [hb]; exact h5) ((h6 x hn).trans hu) ⟨rfl, kp_tk s s.toks⟩) hd
theorem lo_int {i : Int} {k : Nat} {pos : Pos} : Lo prog w K mg D env hm (.Constant (.int i) k pos) (fun r => ∃ t, r = .int i t) := fun A E s _ _ _ _ =>
  wpAny_Constant_int ⟨⟨_, rfl⟩, kp_tk s _⟩
theorem lo_one {op : BoolOp} {a : Expr} {pos : Pos} {R : Value → Prop} (h : Lo prog w K mg D env hm a R) : Lo prog w K mg D env hm (.BoolOp op [a] pos) R := fun A E s h1 h2 h3 h4 => BoolOp_one (h A E s h1 h2 h3 h4)
/-- a and b: what a is decides -/
theorem lo_and {a b : Expr} {rest : List Expr} {pos : Pos} {c : Bool} {R : Value → Prop} (st : Stays hm) (ha : Lo prog w K mg D env hm a (fun r => r = .bool c)) (hf : c = false → R (.bool false)) (ht : c = true → Lo prog w K mg D env hm (.BoolOp .And (b :: rest) pos) R) :
    Lo prog w K mg D env hm (.BoolOp .And (a :: b :: rest) pos) R := fun A E s h1 h2 h3 h4 => by
  refine BoolOp_and (wpAny_mono (ha A E s h1 h2 h3 h4) (fun r t q => ?_) fun _ _ x => x)
  obtain ⟨rfl, k⟩ := q
  refine wpAny_truthy_bool ?_
  cases c with
  | false => exact ⟨hf rfl, k⟩
  | true => exact wpAny_mono (ht rfl A E t h1 h2 (mod_ext h3 (kp_ext k)) (st _ _ (kp_ext k) h4)) (fun r u q => ⟨q.1, kp_tr k q.2⟩) fun _ _ x => x
theorem lo_not {a : Expr} {pos : Pos} {c : Bool} (ha : Lo prog w K mg D env hm a (fun r => r = .bool c)) : Lo prog w K mg D env hm (.UnaryOp .Not a pos) (fun r => r = .bool (!c)) := fun A E s h1 h2 h3 h4 => by
  refine UnaryOp_ (wpAny_mono (ha A E s h1 h2 h3 h4) (fun r t q => ?_) fun _ _ x => x)
  obtain ⟨rfl, k⟩ := q
  exact PyProof.Rows.not_of (wpAny_truthy_bool ⟨rfl, k⟩)
/-- isinstance(a, T), T a built-in type -/
theorem lo_isi {a : Expr} {T : Str} {Tn : String} {p0 p2 pos : Pos} {v t : Value} {Hk : Heap → Prop} {b : Bool} (st : Stays hm) (hk : env.scope.kind = .function) (hg : env.globals = mainGlobals) (hb : env.builtins = builtinsNs)
    (li : env.kindOf "isinstance" = some .globalImplicit) (mi : mg "isinstance" = none) (lT : env.kindOf T = some .globalImplicit) (mT : mg T = none) (bT : bootBuiltins T = some (.type Tn))
    (ha : Lo prog w K mg D env hm a (fun r => r = v)) (Z : PySem.W.KitX K v t Hk) (hK : ∀ h, hm h → Hk h) (e : PySem.W.kitOne K t (.type Tn) = some b) (hx : v ≠ .builtin "__main__.__loader__#opaque")
    (he : starEach [a, .Name T p2] env = (false, eval a env) :: starEach [.Name T p2] env := by rfl) (hn : T ≠ "__name__" := by decide) (hd : (T == ("__debug__" : Str)) = false := by decide) :
    Lo prog w K mg D env hm (.Call (.Name "isinstance" p0) [a, .Name T p2] [] pos) (fun r => r = .bool b) := fun A E s h1 h2 h3 h4 => by
  refine wpAny_Call_Name_kw (wpAny_mono (lo_blt (D := D) (hm := hm) (pos := p0) hk li hg hb mi (by decide +kernel : bootBuiltins "isinstance" = some (.builtin "isinstance")) (by decide) (by decide) A E s h1 h2 h3 h4) (fun r t1 q => ?_) fun _ _ x => x)
  obtain ⟨rfl, k1⟩ := q
  refine PyProof.Rows.callWith_builtin1 ?_ he (by rfl)
  rw [he]
  have m1 := mod_ext h3 (kp_ext k1)
  have s1 := st _ _ (kp_ext k1) h4
  refine Calls.spliced_cons (wpAny_mono (ha A E t1 h1 h2 m1 s1) (fun r t2 q => ?_) fun _ _ x => x)
  obtain ⟨rfl, k2⟩ := q
  have m2 := mod_ext m1 (kp_ext k2)
  have s2 := st _ _ (kp_ext k2) s1
  refine Calls.spliced_cons (wpAny_mono (lo_blt (D := D) (hm := hm) (pos := p2) hk lT hg hb mT bT hn hd A E t2 h1 h2 m2 s2) (fun r t3 q => ?_) fun _ _ x => x)
  obtain ⟨rfl, k3⟩ := q
  refine Calls.spliced_nil ?_
  exact PySem.W.kia_one Z (mod_ext m2 (kp_ext k3)).kin (hK _ (st _ _ (kp_ext k3) s2)) e hx fun tk => ⟨rfl, kp_tr (kp_tr (kp_tr k1 k2) k3) (kp_tk _ tk)⟩
/-- i <= a <= c of whole numbers -/
theorem lo_chain {a b c : Expr} {pos : Pos} {x y z : Int} (st : Stays hm) (ha : Lo prog w K mg D env hm a (fun r => ∃ t, r = .int x t)) (hb : Lo prog w K mg D env hm b (fun r => ∃ t, r = .int y t)) (hc : Lo prog w K mg D env hm c (fun r => ∃ t, r = .int z t))
    (hl : lastMarks [.LtE, .LtE] [b, c] = false := by with_unfolding_all rfl) : Lo prog w K mg D env hm (.Compare a [.LtE, .LtE] [b, c] pos) (fun r => r = .bool (decide (x ≤ y) && decide (y ≤ z))) := fun A E s h1 h2 h3 h4 => by
  refine Compare_chain (wpAny_mono (ha A E s h1 h2 h3 h4) (fun r t1 q => ?_) fun _ _ x => x) hl
  obtain ⟨⟨tx, rfl⟩, k1⟩ := q
  have m1 := mod_ext h3 (kp_ext k1)
  have s1 := st _ _ (kp_ext k1) h4
  refine chain_link (wpAny_mono (hb A E t1 h1 h2 m1 s1) (fun r t2 q => ?_) fun _ _ x => x)
  obtain ⟨⟨ty, rfl⟩, k2⟩ := q
  have m2 := mod_ext m1 (kp_ext k2)
  have s2 := st _ _ (kp_ext k2) s1
  refine le_int (wpAny_truthy_bool ?_)
  by_cases hxy : x ≤ y
  · rw [decide_eq_true hxy]
    show wpAny _ _ _ _ _ _
    refine chain_last (wpAny_mono (hc A E t2 h1 h2 m2 s2) (fun r t3 q => ?_) fun _ _ x => x)
    obtain ⟨⟨tz, rfl⟩, k3⟩ := q
    exact le_int ⟨by rw [Bool.true_and], kp_tr (kp_tr k1 k2) k3⟩
  · rw [decide_eq_false hxy]
    show _ ∧ _
    exact ⟨by rw [Bool.false_and], kp_tr k1 k2⟩
/-- f(a): f a def of the text of one parameter, its body one return -/
theorem lo_call {f : Addr} {x pn qual fn : Str} {a e : Expr} {params : Arguments} {scope : Scope} {oc kV doc pm cdv ct u : Value} {od an : Option Addr} {osl : Array (Option Value)} {p0 p1 pos : Pos} {R : Value → Prop} (st : Stays hm)
    (hk : env.scope.kind = .function) (hg : env.globals = mainGlobals) (lf : env.kindOf fn = some .globalImplicit) (mf : mg fn = some (.ref f)) (hD : D < recursionLimit)
    (lk : K.lookup f = some ⟨oc, od, .func (PySem.W.fnOf x qual params [.Return (some e) p1] scope .none kV doc pm an cdv ct), osl⟩) (hcd : PySem.W.codeIn K cdv qual = true) (kp : PySem.W.keepIn K (.ref f) = true)
    (S : FnScope [pn] [pn] scope) (hb : Binds K (PySem.W.fnOf x qual params [.Return (some e) p1] scope .none kV doc pm an cdv ct) [pn] [])
    (lp : scope.names.lookup pn = some .local) (ha : Lo prog w K mg D env hm a (fun r => r = u))
    (hbody : ∀ env' : Env, env'.scope = scope → env'.globals = mainGlobals → env'.builtins = builtinsNs → Lo prog w K mg (D + 1) env' (fun h => hm h ∧ ∃ m, h.Ns env'.locals m ∧ m pn = some u) e R)
    (he : starEach [a] env = (false, eval a env) :: starEach [] env := by rfl) (hd : (fn == ("__debug__" : Str)) = false := by decide) :
    Lo prog w K mg D env hm (.Call (.Name fn p0) [a] [] pos) R := fun A E s h1 h2 h3 h4 => by
  refine wpAny_Call_Name_kw (wpAny_mono (lo_glob (D := D) (hm := hm) (pos := p0) hk lf hg mf hd A E s h1 h2 h3 h4) (fun r t1 q => ?_) fun _ _ x => x)
  obtain ⟨rfl, k1⟩ := q
  have m1 := mod_ext h3 (kp_ext k1)
  have s1 := st _ _ (kp_ext k1) h4
  refine PySem.W.callWith_K (h₀ := t1.heap) m1.kin kp ?_ he (by rfl)
  rw [he]
  refine Calls.spliced_cons (wpAny_mono (ha A E t1 h1 h2 m1 s1) (fun r t2 q => ?_) fun _ _ x => x)
  obtain ⟨rfl, k2⟩ := q
  have m2 := mod_ext m1 (kp_ext k2)
  have s2 := st _ _ (kp_ext k2) s1
  refine Calls.spliced_nil ⟨m2.kin, ?_⟩
  have KX := m2.kin
  refine wpAny_call (codeAny_call_function (Nat.lt_of_le_of_lt h2 hD) (KX _ _ lk) rfl S.co S.gen rfl (PySem.W.codeRec_of KX hcd) (hb t2 [r] KX rfl _ _ _ _ ?_))
  refine wpAny_newFunctionEnv_cells S.kind (fun y hy => ?_) fun env' he' s3 x3 => ?_
  · obtain rfl : y = (pn, r) := List.mem_singleton.mp hy
    exact .inl lp
  · have k3 : Keeps t2 s3 := x3.done
    have m3 := mod_ext m2 (kp_ext k3)
    have s3' := st _ _ (kp_ext k3) s2
    refine ⟨m3.nolimit, codeAny_func ?_⟩
    have ns := x3.toInCall.ns
    have hv : bindL env'.kindOf ([pn].zip ([r] ++ [])) (fun _ => none) pn = some r := by
      subst he'
      show bindL _ [(pn, r)] _ pn = some r
      unfold bindL
      simp [bindL, newEnv, Env.kindOf, lp]
    have hb' := hbody env' (by subst he'; rfl) (by subst he'; rfl) (by subst he'; rfl) (A.deeper env')
    refine wpAny_execs_cons (wpAny_Return_some (wpAny_mono (hb' _ s3 h1 (Nat.succ_le_succ h2) m3 ⟨s3', _, ns, hv⟩) (fun r t q => ?_) fun _ _ x => x))
    exact ⟨q.1, kp_tr (kp_tr (kp_tr k1 k2) k3) q.2⟩
end
/-- all(elt for x in t), t a tuple; bs: what elt gives for each item; behind it the def's table may have grown -/
def tAllT (K : PySem.W.Frag) (P : Addr) (C : Hp → V → Bool → Prop) (te : TE) : TE := fun σ H Q => te σ H fun v H1 => ∃ (a : Addr) (xs : List V) (bs : List Bool), v = .ref a ∧ SqT K H1 a xs ∧ bs.length = xs.length ∧
  (∀ (i : Nat) (x : V) (b : Bool), xs[i]? = some x → bs[i]? = some b → C H1 x b) ∧ GxR.TabG H1 P ∧ ∀ H2, GxR.Tabbed P H1 H2 → Q (.bl (bs.all fun b => b)) H2
theorem all_get (bs : List Bool) : (List.range bs.length).all (fun j => (bs[j]?).getD false) = bs.all fun b => b := by
  rw [Bool.eq_iff_iff, List.all_eq_true, List.all_eq_true]
  constructor
  · intro h b hb
    obtain ⟨j, hj, e⟩ := List.getElem_of_mem hb
    have q := h j (List.mem_range.mpr hj)
    rw [List.getElem?_eq_getElem hj, e] at q
    exact q
  · intro h j hj
    rw [List.getElem?_eq_getElem (List.mem_range.mp hj)]
    exact h _ (List.getElem_mem _)
/-- what an element asks: at the item v it gives b, quietly -/
def EltOk (X : Cx) (P : Addr) (scope : Scope) (y : Str) (elt : Expr) (C : Hp → V → Bool → Prop) : Prop :=
  ∀ (pins : List (Addr × Obj)) (σ : L2.St) (H : Hp) (s : Shared) (v : V) (u : Value) (b : Bool), Inv X pins σ H s → RelV v u → C H v b → ∀ cenv : Env, cenv.scope = scope → cenv.globals = X.env.globals → cenv.builtins = builtinsNs →
    Lo X.prog X.w X.K X.mg (X.A.depth + 1) cenv (fun h => (∀ a o, a ≠ P → s.heap.get? a = some o → h.get? a = some o) ∧ ∃ m, h.Ns cenv.locals m ∧ m y = some u) elt (fun r => r = .bool b)
theorem pe_allT {X : Cx} {c P : Addr} {elt iter : Expr} {y : Str} {px p pos gpos : Pos} {scope : Scope} {C : Hp → V → Bool → Prop} {te : TE} {k : Nat}
    (hr : Room k X.A) (hg : Gl X "all") (hm : X.mg "all" = none) (TB : GxR.TabB X.base X.mg c P) (hcode : X.env.code = .ref c) (S : GxR.GenS X.env scope y) (hi : PE X iter te) (hel : EltOk X P scope y elt C)
    (hs : ∀ v, genFold iter X.env v = pure v)
    (he : starEach [.GeneratorExp elt [⟨.Name y px, iter, [], 0⟩] scope gpos] X.env = (false, eval (.GeneratorExp elt [⟨.Name y px, iter, [], 0⟩] scope gpos) X.env) :: starEach [] X.env := by rfl) :
    PE X (.Call (.Name "all" p) [.GeneratorExp elt [⟨.Name y px, iter, [], 0⟩] scope gpos] [] pos) (tAllT X.K P C te) := by
  refine ⟨fun pins s σ H Q I h => ?_⟩
  refine wpAny_Call_Name_kw (ld_blt I hg hm (by decide +kernel : bootBuiltins "all" = some (.builtin "all")) ?_)
  refine PyProof.Rows.callWith_builtin1 ?_ he (by rfl)
  rw [he]
  refine Calls.spliced_cons (wpAny_GeneratorExp_walksQD hr.hd S.co (closure_ok S.free) S.cell S.dot S.loc S.kind (by have z := hr.dp; omega) ?_ hs)
  refine thn (hi.run pins s σ H _ I h) fun xv s1 ⟨v, H1, I1, r1, a, xs, bs, ev, hT, hlen, hC, ⟨ps, hP, htr⟩, q1⟩ => ?_
  subst ev
  cases r1
  obtain ⟨its, rv, ht, hz⟩ := I1.tuple hT
  have lenI : its.length = xs.length := rv.length.symm
  have htl : a < s1.heap.objs.size := by
    obtain ⟨o, e, _⟩ := ht
    exact Heap.lt_size e
  have hPs : s1.heap.get? P = some { cls := .none, data := .fields ps } := I1.hok P _ hP
  have hPl : P < s1.heap.objs.size := Heap.lt_size hPs
  refine wpAny_pyIter_tuple (show s1.heap.IsTuple a its.toArray from ht) ?_
  generalize eo : ({ cls := .type "tuple_iterator", data := .fields #[.ref a, .int 0 0] } : Obj) = o
  have push1 : ∀ b u, s1.heap.get? b = some u → (s1.heap.push o).get? b = some u := fun b u e => Heap.get?_push_of_some _ e
  have szp : (s1.heap.push o).objs.size = s1.heap.objs.size + 1 := Heap.size_push ..
  have limp : (s1.heap.push o).NoLimit := I1.nolimit.push o
  have hcd : PySem.W.CodeHd (s1.heap.push o) c P := TB.code.keeps fun b u e => push1 b u (I1.bk b u e)
  refine ⟨limp, ?_⟩
  refine wpAny_mono (Q := fun _ s3 => ∃ (h3 : Heap) (tk : Nat) (more : Array Value), s3 = { s1 with heap := h3, toks := tk } ∧ Heap.ExtBut P (s1.heap.push o) h3 ∧ (s1.heap.push o).objs.size ≤ h3.objs.size ∧ h3.get? P = some { cls := .none, data := .fields (ps ++ more) } ∧ TriplesOk (ps ++ more).toList) (E := X.xe) ?_ (fun code s3 q3 => ?_) fun _ _ z => z
  · cases hf : codeAmong gpos ps.toList with
    | none =>
      refine wpAny_genexprCodeX hcode (hcd.code (push1 _ _ hPs) htr) (hcd.tab (push1 _ _ hPs)) hf fun c' h' tk hx hge hlt hco' _ htab' _ => ?_
      obtain ⟨o1, vs, f1, tf, fl, tg, inF, tx, tt, op, _, _, _, _, _, _, _, _, _, htr', _⟩ := hco'
      exact ⟨h', tk, _, rfl, hx, Nat.le_trans hge (Nat.le_of_lt hlt), htab'.2, htr'⟩
    | some cv =>
      refine wpAny_genexprCode_hit hcode (hcd.code (push1 _ _ hPs) htr) hf ?_
      exact ⟨s1.heap.push o, s1.toks, #[], rfl, Heap.ExtBut.refl _ _, Nat.le_refl _, by rw [Array.append_empty]; exact push1 _ _ hPs, by rw [Array.append_empty]; exact htr⟩
  · obtain ⟨h3, tk3, more, rfl, hx3, hsz3, hP3, htr3⟩ := q3
    obtain ⟨bm, ob, e1, e2, e3, e4, e5, e6, e7, e8⟩ := TB.bm
    have toH3 : ∀ b u, b ≠ P → s1.heap.get? b = some u → h3.get? b = some u := fun b u hb e => hx3 b u hb (push1 b u e)
    have nPc : cStatics ≠ P := fun e => by
      obtain ⟨_, hns, _⟩ := I1.nolimit
      obtain ⟨o', es, ep, ho, hd, _⟩ := hns
      rw [e, hPs] at ho
      cases ho
      cases hd
    have ltC : cStatics < s1.heap.objs.size := let ⟨_, hns, _⟩ := I1.nolimit; hns.lt
    have ltA : a ≠ P := fun e => by
      obtain ⟨o', e', c', _⟩ := ht
      rw [e, hPs] at e'
      cases e'
      cases c'
    refine wpAny_builtinsFor (m := X.mg) (by rw [I1.ok.glob]; exact ((I1.mod.glob.keeps I1.bk).push o).extBut hx3 TB.gP) e1 e2 (toH3 _ _ e4 (I1.bk _ _ e5)) e6 e7 e8 ?_
    have itl : s1.heap.objs.size < h3.objs.size := by omega
    refine ⟨s1.heap.objs.size, [s1.heap.objs.size, a], [s1.heap.objs.size], its.toArray.size, _, _, (fun _ => true), (fun i r => ∃ b, bs[i]? = some b ∧ r = .bool b), rfl, fun A' hA => Walks.tuple hA _ a (Nat.ne_of_lt htl) its.toArray, ⟨?_, ?_⟩, ?_, limp.extBut hx3 nPc, ?_, ?_, ?_⟩
    · have e9 : (s1.heap.push o).get? s1.heap.objs.size = some o := Heap.get?_push_size _ (by rw [← eo]; rfl)
      have e10 := hx3 _ _ (fun z => Nat.ne_of_lt hPl z.symm) e9
      subst eo
      exact ⟨_, e10, rfl, rfl⟩
    · obtain ⟨o', e', r'⟩ := ht
      exact ⟨o', toH3 _ _ ltA e', r'⟩
    · intro b hb
      rcases List.mem_cons.mp hb with z | z
      · rw [z]
        exact itl
      · rw [List.mem_singleton.mp z]
        exact Nat.lt_trans htl itl
    · intro z
      exact Nat.ne_of_lt ltC (List.mem_singleton.mp z)
    · intro href hhref
      refine ⟨fun A' E' i v s₂ m₂ hA _ _ _ hn hmv hk => ?_, fun A' E' i v s₂ m₂ hA hdp _ hv _ hn hmv hk => ?_⟩
      · simp only [List.forIn_nil]
        exact wpAny_pure ⟨rfl, kp_tk _ _⟩
      · have hv' : its[i]? = some v := by
          rw [← hv]
          simp
        obtain ⟨hi1, _⟩ := List.getElem?_eq_some_iff.mp hv'
        have hi2 : i < xs.length := by omega
        have hi3 : i < bs.length := by omega
        obtain ⟨u, hu, ru⟩ := rv.get (List.getElem?_eq_getElem hi2)
        rw [hv'] at hu
        cases hu
        have hold : ∀ b u, b ≠ P → s1.heap.get? b = some u → s₂.heap.get? b = some u := fun b u hb e => by
          have hl := Heap.lt_size e
          refine hk b (List.mem_range.mpr (Nat.lt_trans hl itl)) (fun z => ?_) u (hhref b u (toH3 b u hb e))
          exact Nat.ne_of_lt hl (List.mem_singleton.mp z)
        have hmod : Mod X.K X.mg s₂.heap := mod_ext I1.mod fun b u e => hold b u (fun z => by
          have n := (I1.bs b u e).2
          rw [z, hP] at n
          cases n) (I1.bk b u e)
        refine wpAny_mono (hel pins σ H1 s1 _ v bs[i] I1 ru (hC i _ _ (List.getElem?_eq_getElem hi2) (List.getElem?_eq_getElem hi3)) (genEnv scope (cloFrom X.env.cells scope.names []) h3.objs.size code builtinsNs X.env) rfl rfl rfl A' E' s₂ hA hdp hmod ⟨hold, m₂, hn, hmv⟩) (fun r t q => ?_) fun _ _ z => z
        exact ⟨⟨_, List.getElem?_eq_getElem hi3, q.1⟩, q.2⟩
    · intro g h5 tk5 gs hgb hag hsz5 hk5 W5 hat
      simp only [GxR.passing_true, List.length_range] at W5
      have W6 := W5.in4_1
      refine Calls.spliced_nil (call_all_walkS (W6.self 0 _ _ _ hat ⟨g, _, _, _, _, _, _, fun j => (bs[j]?).getD false, rfl, W6, hat, ?_, fun s' hmv => ?_⟩))
      · intro j r sj Qj Ej hr' hQj
        obtain ⟨i, hij, b, hb, rfl⟩ := hr'
        obtain ⟨hj, ej⟩ := List.getElem?_eq_some_iff.mp hij
        rw [List.getElem_range] at ej
        subst ej
        have hQ2 : Qj ((bs[j]?).getD false) sj := hQj
        rw [hb] at hQ2
        exact wpAny_truthy_bool hQ2
      · have nw : ∀ b u, s1.heap.get? b = some u → b ∉ h3.objs.size :: [s1.heap.objs.size] := fun b u e hb => by
          have hl := Heap.lt_size e
          rcases List.mem_cons.mp hb with z | z
          · rw [z] at hl
            exact absurd (Nat.lt_trans itl hl) (Nat.lt_irrefl _)
          · rw [List.mem_singleton.mp z] at hl
            exact Nat.lt_irrefl _ hl
        have J := GxR.inv_tab (more := more) (h' := s'.heap) (g' := s'.gens) (d' := s'.drawn) (t' := s'.toks) I1 hP (fun b u hb e => hmv.heap b u (nw b u e) (hk5 b u (toH3 b u hb e)))
          (hmv.heap P _ (nw P _ hPs) (hk5 P _ hP3)) (AllBare.movedS (I1.bare.push hgb) hmv)
        rw [GxR.sh_eta s1 s' hmv.os] at J
        refine ⟨.bl (bs.all fun b => b), upd H1 P (.tbl (ps ++ more)), J, ?_, q1 _ ⟨⟨ps ++ more, upd_same, htr3⟩, fun b hb => upd_ne hb⟩⟩
        have e11 : its.toArray.size = bs.length := by
          rw [List.size_toArray]
          omega
        rw [e11, all_get]
        rfl
/-! ### heaps -/
theorem same_upd {H : Hp} {p : Addr} {o : HO} (h : H p = none) : Same H (upd H p o) := fun b x e => by
  rw [upd_ne (ne_of_none e h)]
  exact e
theorem Same.tup {K : PySem.W.Frag} {H H' : Hp} {a : Addr} {xs : List V} (e : Same H H') (h : SqT K H a xs) : SqT K H' a xs := by
  rcases h with (h | ⟨o, h⟩) | h
  · exact .inl (.inl (e _ _ h))
  · exact .inl (.inr ⟨o, e _ _ h⟩)
  · exact .inr h
/-- the source of draws: at p the list of the cells' list at l, a number held and a seed -/
def Sc (p l : Addr) (H : Hp) : Prop := p ≠ l ∧ ∃ (ns : List Int) (a b : Int), H p = some (.lst [.ref l, .int a, .int b]) ∧ H l = some (.lst (ns.map V.int)) ∧ 0 ≤ a ∧ 0 ≤ b ∧ b < 998244353
/-- but for p and l all that was tracked is as it was -/
def Kp (p l : Addr) (H H' : Hp) : Prop := ∀ b o, b ≠ p → b ≠ l → H b = some o → H' b = some o
theorem Kp.refl {p l : Addr} (H : Hp) : Kp p l H H := fun _ _ _ _ e => e
theorem Kp.trans {p l : Addr} {H H1 H2 : Hp} (a : Kp p l H H1) (b : Kp p l H1 H2) : Kp p l H H2 := fun c o h1 h2 e => b c o h1 h2 (a c o h1 h2 e)
theorem Kp.upd {p l q : Addr} {o : HO} {H H1 : Hp} (a : Kp p l H H1) (h : H1 q = none) : Kp p l H (L2.upd H1 q o) := fun c u h1 h2 e => same_upd h c u (a c u h1 h2 e)
theorem Kp.updp {p l : Addr} {o : HO} {H H1 : Hp} (a : Kp p l H H1) : Kp p l H (L2.upd H1 p o) := fun c u h1 h2 e => by
  rw [upd_ne h1]
  exact a c u h1 h2 e
theorem Kp.updl {p l : Addr} {o : HO} {H H1 : Hp} (a : Kp p l H H1) : Kp p l H (L2.upd H1 l o) := fun c u h1 h2 e => by
  rw [upd_ne h2]
  exact a c u h1 h2 e
theorem Sc.upd {p l q : Addr} {o : HO} {H : Hp} (a : Sc p l H) (h : H q = none) : Sc p l (L2.upd H q o) := by
  obtain ⟨n, ns, x, y, e1, e2, r⟩ := a
  exact ⟨n, ns, x, y, same_upd h _ _ e1, same_upd h _ _ e2, r⟩
theorem Sc.same {p l : Addr} {H H' : Hp} (a : Sc p l H) (h : Same H H') : Sc p l H' := by
  obtain ⟨n, ns, x, y, e1, e2, r⟩ := a
  exact ⟨n, ns, x, y, h _ _ e1, h _ _ e2, r⟩
theorem Kp.of_same {p l : Addr} {H H' : Hp} (h : Same H H') : Kp p l H H' := fun b o _ _ e => h b o e
theorem Sc.ne {p l b : Addr} {H : Hp} (a : Sc p l H) (h : H b = none) : b ≠ p ∧ b ≠ l := by
  obtain ⟨n, ns, x, y, e1, e2, r⟩ := a
  exact ⟨(ne_of_none e1 h).symm, (ne_of_none e2 h).symm⟩
/-- what was free behind is free ahead -/
theorem Kp.free {p l b : Addr} {H H' : Hp} (k : Kp p l H H') (a : Sc p l H') (h : H' b = none) : H b = none := by
  cases q : H b with
  | none => rfl
  | some o =>
    have n := a.ne h
    rw [k b o n.1 n.2 q] at h
    cases h
theorem dpAll_int {K : PySem.W.Frag} {H : Hp} : ∀ ns : List Int, DpAll K H (ns.map V.int) (ns.map PyData.int)
  | [] => .nil
  | n :: r => .cons (.int n) (dpAll_int r)
theorem canLay_ints : ∀ ns : List Int, PyData.canLayAll0 (ns.map PyData.int) = true
  | [] => by simp [PyData.canLayAll0]
  | n :: r => by
    have ih := canLay_ints r
    simp only [List.map_cons, PyData.canLayAll0, PyData.canLay0, Bool.true_and]
    exact ih
theorem depth_ints : ∀ ns : List Int, PyData.depthAll (ns.map PyData.int) ≤ 1
  | [] => by simp [PyData.depthAll]
  | n :: r => by
    have ih := depth_ints r
    simp only [List.map_cons, PyData.depthAll, PyData.depth]
    omega
theorem shaped_ints (ns : List Int) : SeqAt.shaped (.list (ns.map PyData.int)) = true := by
  have h1 := canLay_ints ns
  have h2 := depth_ints ns
  unfold SeqAt.shaped
  rw [show PyData.canLay0 (.list (ns.map PyData.int)) = PyData.canLayAll0 (ns.map PyData.int) by simp only [PyData.canLay0], h1, Bool.true_and]
  refine decide_eq_true ?_
  rw [show PyData.depth (.list (ns.map PyData.int)) = PyData.depthAll (ns.map PyData.int) + 1 by simp only [PyData.depth]]
  omega
theorem eqv_nil : ∀ ns : List Int, PyData.eqv (.list (ns.map PyData.int)) (.list []) = ns.isEmpty
  | [] => by simp [PyData.eqv, PyData.eqvAll]
  | n :: r => by simp [PyData.eqv, PyData.eqvAll]
theorem map_get {ns : List Int} {i : Nat} {x : V} (h : (ns.map V.int)[i]? = some x) : ∃ n, ns[i]? = some n ∧ x = .int n := by
  rw [List.getElem?_map] at h
  cases e : ns[i]? with
  | none =>
    rw [e] at h
    cases h
  | some n =>
    rw [e] at h
    exact ⟨n, rfl, (Option.some.inj h).symm⟩
theorem lg {m : Int} (h : 0 < m) (h2 : m ≤ 1000000) : m.natAbs.log2 < 9000 := Nat.lt_of_lt_of_le (PySem.Flt.log2_lt_of (by decide : 0 < 64) (by omega)) (by decide)
/-- what the top has left of each def's table -/
def TabsOf (q : Program) (mg : Str → Option Value) (h : Heap) : Prop := ∀ e ∈ recsOf q, ∃ a o fd c P, mg e.name = some (.ref a) ∧ h.get? a = some o ∧ o.data = .func fd ∧ fd.code = .ref c ∧ h.IsCode c P #[] ∧ h.TableAt c P #[]
/-- the end of a law that reaches defs with generator expressions -/
theorem walk_tab {l : PySem.W.OpenLaw} {n k : Nat} {q : Program} {loose : List Str} {XP : (Str → Option Value) → Heap → Prop} {YP : World → Heap → Prop} {d : DefRec} {K : Params → PySem.W.Frag} {x : Str}
    (hn : l.most = some n) (hn2 : n ≤ sizeLine) (hdf : d.params.defaults = []) (hr : Room k callerA) (hY : ∀ (w : World) (h : Heap), YP w h → (K w.params).In h)
    (F : ∀ (w : World) (mg : Str → Option Value) (fa : Addr) (h : Heap), (K w.params).In h → h.Ns mainGlobals mg → mg d.name = some (.ref fa) → TabsOf q mg h → LamX.LawAtS l w (K w.params) CX0 k n x mg fa h) :
    PySem.W.WalkO q loose XP YP l.row.toRowW d [] (fun f vs => PySem.call f vs) := by
  refine Att.attach_callB hn hdf fun w t0 t1 mg mb fa o pm cd doc a vs ns G Y _ _ _ hmg hobj hints hlen hbits hg => ?_
  obtain ⟨fd, cs, sp, hT, nT, C, hb, hsp, hF⟩ := F w mg fa _ (hY w _ Y) G.T.g hmg G.T.tab
  refine LamX.law_callTs (hY w _ Y) G.T.g G.T.b G.T.builtins G.T.nolimit hg hT nT C G.T.bmain hobj hints ?_ hr hF hb ?_ fun _ _ _ z => z
  · exact Nat.le_trans hlen hn2
  · exact fun H hH hS => hsp H a ns hlen hbits hH hS
/-- the table of the def f, whose code object the head has written out -/
theorem tab_of {q : Program} {mg : Str → Option Value} {h : Heap} {K : PySem.W.Frag} {f c P : Addr} {x qual : Str} {params : Arguments} {body : List Stmt} {scope : Scope} {oc kV doc pm ct e : Value} {od an dd : Option Addr} {osl sl : Array (Option Value)} {vs : Array Value} (X : K.In h) (T : TabsOf q mg h)
    (hr : ((recsOf q).any fun e => e.name == x) = true) (hf : mg x = some (.ref f)) (lk : K.lookup f = some ⟨oc, od, .func (PySem.W.fnOf x qual params body scope .none kV doc pm an (.ref c) ct), osl⟩)
    (lc : K.lookup c = some ⟨e, dd, .fields vs, sl⟩) (h11 : vs[11]? = some (.ref P)) : h.get? P = some { cls := .none, data := .fields #[] } ∧ PySem.W.CodeHd h c P := by
  obtain ⟨r, hm, hn⟩ := List.any_eq_true.mp hr
  have hn' : r.name = x := beq_iff_eq.mp hn
  obtain ⟨a, o, fd, c', P', h1, h2, h3, h4, h5, h6⟩ := T r hm
  rw [hn', hf] at h1
  cases h1
  rw [X _ _ lk] at h2
  cases h2
  cases h3
  cases h4
  have hd := PySem.W.CodeHd.of h5 h6
  obtain ⟨⟨oc', vc, e1, _, e3, e4⟩, hP⟩ := h6
  rw [X _ _ lc] at e1
  cases e1
  cases e3
  rw [h11] at e4
  cases e4
  exact ⟨hP, hd⟩
/-! ### < of data at any depth -/
def rLtD (K : PySem.W.Frag) : R2 := fun x y H Q => ∃ d e, Dp K H x d ∧ Dp K H y e ∧ PySem.W.alike d e = true ∧ d ≠ .none ∧ d.depth ≤ 64 ∧ Q (.bl (PySem.W.dataLt d e)) H
theorem op_ltD {X : Cx} (hu : X.A.units + 64 < cLine) : OpR X (compareOp .Lt) (rLtD X.K) := by
  intro pins s σ H x y v u Q I rx ry h
  obtain ⟨d, e, hd, he, ha, hn, hz, q⟩ := h
  obtain ⟨as, r1⟩ := Dp.reads I d x v hd rx
  obtain ⟨bs, r2⟩ := Dp.reads I e y u he ry
  refine PySem.W.lt_data r1 r2 ha hn ?_ ⟨.bl _, H, I, rfl, q⟩
  have := Nat.min_le_left d.depth e.depth
  omega
/-! ### (a, ..) * k for k = 0 and 1 too -/
theorem tup_mul1 (l : Addr) (items : Array Value) (n : Nat) (dd : Option Addr) (sl : Array (Option Value)) (u : Tok) :
    Meets (Builtin.«tuple.__mul__» ⟨[.ref l, .int 1 u], []⟩) (fun _ R s => s.heap.get? l = some { cls := .type "tuple", dict := dd, data := .seq items n, slots := sl } ∧ R (.ok (.ret (.ref l))) s) :=
  .of_wp fun prog w A R s h => by
    obtain ⟨hp, g, d, tk, os⟩ := s
    obtain ⟨hl, h⟩ := h
    have f1 := AutoSeq1.idx_int
    wp_walk using AutoSeq1.wpAny_loadPart' hl
    repeat (first
      | (refine wpAny_ite_true (decide_eq_true (by simp)) ?_; wp_walk using AutoSeq1.wpAny_loadPart' hl)
      | (refine wpAny_ite_false (decide_eq_false (by simp)) ?_; wp_walk using AutoSeq1.wpAny_loadPart' hl))
    exact ⟨_, rfl, h⟩
theorem tup_mul0 (l : Addr) (items : Array Value) (n : Nat) (dd : Option Addr) (sl : Array (Option Value)) (u : Tok) (hne : items.isEmpty = false) :
    Meets (Builtin.«tuple.__mul__» ⟨[.ref l, .int 0 u], []⟩) (fun _ R s => s.heap.get? l = some { cls := .type "tuple", dict := dd, data := .seq items n, slots := sl } ∧
      R (.ok (.ret (.ref s.heap.objs.size))) { s with heap := s.heap.push { cls := .type "tuple", data := .seq #[] }, toks := s.toks }) :=
  .of_wp fun prog w A R s h => by
    obtain ⟨hp, g, d, tk, os⟩ := s
    obtain ⟨hl, h⟩ := h
    have f1 := AutoSeq1.idx_int
    wp_walk using AutoSeq1.wpAny_loadPart' hl
    repeat (first
      | (refine wpAny_ite_false (decide_eq_false (by simp [hne])) ?_; wp_walk using AutoSeq1.wpAny_loadPart' hl)
      | (refine wpAny_ite_true (decide_eq_true (by simp)) ?_; wp_walk using AutoSeq1.wpAny_loadPart' hl))
    exact ⟨_, rfl, h⟩
def rRepA (K : PySem.W.Frag) : R2 := fun x y H Q => ∃ l k xs, x = .ref l ∧ y = .int k ∧ SqT K H l xs ∧ xs ≠ [] ∧ 0 ≤ k ∧ k ≤ 1000 ∧ xs.length ≤ 1000 ∧ (k = 1 → Q (.ref l) H) ∧ (k ≠ 1 → ∀ p, H p = none → Q (.ref p) (upd H p (.tup (List.replicate k.toNat xs).flatten)))
theorem op_repA {X : Cx} : OpR X (binaryOp .Mult) (rRepA X.K) := by
  intro pins s σ H x y v u Q I rx ry h
  obtain ⟨l, k, xs, ex, ey, hT, hne, h0, h1, hz, q1, q2⟩ := h
  by_cases hk : 2 ≤ k
  · exact op_repT pins s σ H x y v u Q I rx ry ⟨l, k, xs, ex, ey, hT, hne, hk, h1, hz, q2 (by omega)⟩
  · subst ex ey
    cases rx
    obtain ⟨t, rfl⟩ := ry
    obtain ⟨its, r, ⟨⟨cls, dd, data, sl⟩, ho, hc, n, hd⟩, hs⟩ := I.tuple hT
    simp only at hc hd
    subst hc hd
    have hi : its.toArray.isEmpty = false := by
      cases its with
      | nil => exact absurd (List.eq_nil_of_length_eq_zero r.length) hne
      | cons a b => rfl
    rcases (show k = 0 ∨ k = 1 by omega) with rfl | rfl
    · refine wpAny_binaryOp_repeat_ref (T := "tuple") (U := "int") (by decide) ⟨_, ho, rfl⟩ (fun s' => typeIs_int s' 0 t) noFill_tuple_mul F.fills_int_mul F.slot_int_rmul repeat_tuple F.slot_int_index.lookup
        (call_meets F.slot_int_rmul (typeIs_int s 0 t) F.entry_int_rmul (F.args_int_rmul_2 _ _) (int_rmul_tuple 0 t l its.toArray n dd sl)
          ⟨ho, rfl, ⟨_, ho, rfl⟩, call_meets F.slot_tuple_mul ⟨_, ho, rfl⟩ F.entry_tuple_mul (F.args_tuple_mul_2 _ _) (tup_mul0 l its.toArray n dd sl t hi) ⟨ho, ?_⟩⟩)
      refine ⟨.ref s.heap.objs.size, _, I.laid (t' := s.toks) (o := .tup (List.replicate (0 : Int).toNat xs).flatten) (fun b ob q => Heap.get?_push_of_some _ q) (Nat.le_refl _) ?_, rfl, q2 (by decide) _ (I.hok.fresh (Nat.le_refl _))⟩
      exact ⟨Nat.zero_le _, [], .nil, IsTup.new _ _⟩
    · exact wpAny_binaryOp_repeat_ref (T := "tuple") (U := "int") (by decide) ⟨_, ho, rfl⟩ (fun s' => typeIs_int s' 1 t) noFill_tuple_mul F.fills_int_mul F.slot_int_rmul repeat_tuple F.slot_int_index.lookup
        (call_meets F.slot_int_rmul (typeIs_int s 1 t) F.entry_int_rmul (F.args_int_rmul_2 _ _) (int_rmul_tuple 1 t l its.toArray n dd sl)
          ⟨ho, rfl, ⟨_, ho, rfl⟩, call_meets F.slot_tuple_mul ⟨_, ho, rfl⟩ F.entry_tuple_mul (F.args_tuple_mul_2 _ _) (tup_mul1 l its.toArray n dd sl t) ⟨ho, ⟨.ref l, H, I, rfl, q1 rfl⟩⟩⟩)
/-! ### isinstance of the error that a suite holds -/
def rIsX (K : PySem.W.Frag) (D a : Addr) (cls : Value) (d : Option Addr) : List V → Hp → VK → Prop := fun xs H Q => cls = .ref D ∧ d = none ∧ rIsE K D a xs H Q
theorem call_isX {X : Cx} {a D : Addr} {oe : Obj} {cls : Value} {d : Option Addr} {pn : List (Addr × Obj)} (C : ExcC X.K D) (hz : Zc cls d oe) (hf : ∃ vs, oe.data = .fields vs) : CallR (X.suite a ((a, oe) :: pn)) (.builtin "isinstance") (rIsX X.K D a cls d) := by
  intro pins s σ H xs us Q I r h
  obtain ⟨rfl, rfl, h⟩ := h
  exact call_isE C hz hf pins s σ H xs us Q I r h
/-- .. with a tuple of classes -/
def rIsXT (K : PySem.W.Frag) (D a : Addr) (cls : Value) (d : Option Addr) : List V → Hp → VK → Prop := fun xs H Q => cls = .ref D ∧ d = none ∧ ∃ (tp : Addr) (cs : List V) (us : List Value) (b : Bool), xs = [.ref a, .ref tp] ∧ H tp = some (.tup cs) ∧ Paired ClsV cs us ∧ PySem.W.kitAny K (.ref D) us = some b ∧ Q (.bl b) H
theorem call_isXT {X : Cx} {a D : Addr} {oe : Obj} {cls : Value} {d : Option Addr} {pn : List (Addr × Obj)} (C : ExcC X.K D) (hz : Zc cls d oe) (hf : ∃ vs, oe.data = .fields vs) : CallR (X.suite a ((a, oe) :: pn)) (.builtin "isinstance") (rIsXT X.K D a cls d) := by
  intro pins s σ H xs us Q I r h
  obtain ⟨rfl, rfl, tp, cs, ws, b, rfl, hT, k, e, q⟩ := h
  obtain ⟨u1, u2, rfl, r1, r2⟩ := vals2 r
  cases (show u1 = Value.ref a from r1)
  cases (show u2 = Value.ref tp from r2)
  obtain ⟨hget, _⟩ := I.pin (a, oe) (List.mem_append.mpr (.inl List.mem_cons_self))
  obtain ⟨vs, hv⟩ := hf
  have J : PySem.W.InstAt s.heap a oe D none := by
    obtain ⟨oc, od, oda, osl⟩ := oe
    obtain ⟨h1, h2⟩ := hz
    dsimp only at h1 h2 hv
    subst h1 h2 hv
    exact ⟨hget, rfl, rfl, trivial⟩
  obtain ⟨_, its, rv, o, h1, h2, n, h3⟩ := (show ObjOk X.prog X.w H s.heap tp (.tup cs) from I.hok tp _ hT)
  have e3 := ClsV.all k rv
  subst e3
  obtain ⟨oc, od, dt, sl⟩ := o
  simp only at h2 h3
  subst h2 h3
  exact PySem.W.kia_tup (PySem.W.handS_kitx_exc C.hg C.hk C.hs C.hd C.ha C.hn C.ht C.hm) I.kIn J h1 e (fun z => nomatch z) fun tk => ⟨.bl b, H, I.kept (t' := tk) fun _ _ z => z, rfl, q⟩
/-! ### for i, x in enumerate(t), t a tuple -/
theorem enum_new {v : Value} {o : Obj} {Hv : Heap → Prop} (B : Begins v o Hv) :
    Meets (Builtin.«enumerate.__new__» ⟨[.type "enumerate", v], []⟩) (fun _ R s => Hv s.heap ∧
      R (.ok (.ret (.ref (s.heap.push o).objs.size))) { s with heap := (s.heap.push o).push { cls := .type "enumerate", data := .fields #[.none, .bool false, .ref s.heap.objs.size, rawInt 0, .none, .none] } }) :=
  .of_wp fun prog w A R s h => by
    obtain ⟨hp, g, d, tk, os⟩ := s
    obtain ⟨hv, h⟩ := h
    have hsub := sub_enumerate
    have q1 : ∀ {A1 : Around} {E1 : Value → Shared → Prop} {Q1 : Value → Shared → Prop}, Q1 (.ref hp.objs.size) ⟨hp.push o, g, d, tk, os⟩ → wpAny (model prog w) A1 (pyIter v) Q1 E1 ⟨hp, g, d, tk, os⟩ := fun q => B.iter prog w _ _ ⟨hp, g, d, tk, os⟩ _ hv q
    wp_walk using q1
    refine wpAny_stack_any fun st => wpAny_pure ?_
    split
    · rename_i c _ _ _ _ _
      cases (c == Value.type "enumerate") <;> (wp_walk using q1; exact ⟨_, rfl, h⟩)
    · wp_walk using q1
      exact ⟨_, rfl, h⟩
theorem call_enumT {prog : Program} {w : World} {A : Around} {E : Value → Shared → Prop} {s : Shared} {t : Addr} {items : Array Value} {Q : Value → Shared → Prop} (ht : s.heap.IsTuple t items)
    (h : ∀ h', IsEnum h' (s.heap.objs.size + 1) s.heap.objs.size 0 .none → h'.IsTupleIter s.heap.objs.size t 0 → (∀ b o, s.heap.get? b = some o → h'.get? b = some o) → Q (.ref (s.heap.objs.size + 1)) { s with heap := h' }) :
    wpAny (model prog w) A (call (.type "enumerate") [.ref t]) Q E s := by
  refine callType_new F.called_enumerate (by decide) (F.typeCall_enumerate_1 _) (F.newCall_enumerate_1 _) (fun obj => F.args_object_init_2 obj _) F.entry_enumerate_new (enum_new (begins_tuple t items)) ⟨ht, ?_⟩
  generalize eo : ({ cls := .type "tuple_iterator", data := .fields #[.ref t, .int 0 0] } : Obj) = o
  have hz : (s.heap.push o).objs.size = s.heap.objs.size + 1 := Heap.size_push ..
  have fo : o.isFreed = false := by rw [← eo]; rfl
  have he : IsEnum ((s.heap.push o).push { cls := .type "enumerate", data := .fields #[.none, .bool false, .ref s.heap.objs.size, rawInt 0, .none, .none] }) (s.heap.objs.size + 1) s.heap.objs.size 0 .none := by
    have q := Heap.get?_push_size (s.heap.push o) (o := { cls := .type "enumerate", data := .fields #[.none, .bool false, .ref s.heap.objs.size, rawInt 0, .none, .none] }) rfl
    rw [hz] at q
    exact q
  have hi : ((s.heap.push o).push { cls := .type "enumerate", data := .fields #[.none, .bool false, .ref s.heap.objs.size, rawInt 0, .none, .none] }).IsTupleIter s.heap.objs.size t 0 := by
    refine ⟨o, Heap.get?_push_of_some _ (Heap.get?_push_size _ fo), ?_, ?_⟩
    · rw [← eo]
    · rw [← eo]
      rfl
  show _ ∧ _
  rw [hz]
  exact ⟨⟨_, he, rfl⟩, h _ he hi fun b u x => Heap.get?_push_of_some _ (Heap.get?_push_of_some _ x)⟩
def ItE (K : PySem.W.Frag) (a : Addr) : It :=
  ⟨fun i H => ∃ (xs : List V) (x : V), SqT K H a xs ∧ xs[i]? = some x, fun i H v H' => ∃ T x, v = .ref T ∧ H T = none ∧ H' = upd H T (.tup [.int (i : Nat), x]) ∧ ∀ xs, SqT K H a xs → xs[i]? = some x, fun i H => ∃ xs : List V, SqT K H a xs ∧ xs.length ≤ i⟩
theorem turn_enumT {P : Program} {w : World} {K : PySem.W.Frag} {elts : List Expr} {kk : Nat} {tpos : Pos} (a e it : Addr) (hea : e ≠ a) (hia : a ≠ it) (hne : e ≠ it) :
    Turn P w K (.Tuple elts kk tpos) (ItE K a) [e, it] e (fun i h => (∃ old, IsEnum h e it ((i : Nat) : Int) old) ∧ h.IsTupleIter it a i) where
  mem := by simp
  obj := fun i h st b hb => by
    obtain ⟨⟨old, he⟩, ⟨o, ho, hc, hd⟩⟩ := st
    simp only [List.mem_cons, List.not_mem_nil, or_false] at hb
    rcases hb with rfl | rfl
    · exact ⟨_, he, fun v q => nomatch q⟩
    · exact ⟨o, ho, fun v q => by rw [hd] at q; cases q⟩
  keep := fun i h h' st k => let ⟨⟨old, he⟩, hi⟩ := st; ⟨⟨old, k e (by simp) _ he⟩, hi.at fun o q => k it (by simp) o q⟩
  item := by
    intro X hP hw hK hc i pins s σ H E I hf st hg
    subst hP hw hK
    obtain ⟨⟨old, he⟩, hit⟩ := st
    obtain ⟨xs, x, hq, hx⟩ := hg
    obtain ⟨its, rv, p, hz⟩ := I.tuple hq
    obtain ⟨u, hu, ru⟩ := rv.get hx
    have hel : e < s.heap.objs.size := Heap.lt_size he
    have hil : it < s.heap.objs.size := by
      obtain ⟨_, q, _⟩ := hit
      exact Heap.lt_size q
    have hlt : i < its.toArray.size := by
      rw [List.size_toArray]
      exact (List.getElem?_eq_some_iff.mp hu).1
    have hfp : e ∉ [it, a] := fun z => by
      simp only [List.mem_cons, List.not_mem_nil, or_false] at z
      rcases z with z | z
      · exact hne z
      · exact hea z
    refine wpAny_pyNext_enum_itemD (Draws.tuple (A := X.A.in1) (I.ok.hd hc) it a hia its.toArray) he ⟨hit, p⟩ hlt hne hfp fun y h' tk hy ho hst hT hsz hk => ?_
    have ey : y = u := by
      have z : its.toArray[i]? = some y := hy
      rw [show its.toArray[i]? = its[i]? by simp, hu] at z
      exact (Option.some.inj z).symm
    subst ey
    refine ⟨_, rfl, wpAny_letOwnedTupleGo_enum (s := { s with heap := h', toks := tk + 1 }) ho fun h2 he' sb => ?_⟩
    have hT2 : h2.get? s.heap.objs.size = some { cls := .type "tuple", data := .seq #[.int i tk, y] } := (sb.2 _ (Nat.ne_of_gt hel)).trans hT
    have new : ObjOk X.prog X.w (upd H s.heap.objs.size (.tup [.int (i : Nat), x])) h2 s.heap.objs.size (.tup [.int (i : Nat), x]) :=
      ⟨(show 2 ≤ sizeLine by decide), [.int i tk, y], .cons ⟨_, rfl⟩ (.cons ru .nil), ⟨_, hT2, rfl, _, rfl⟩⟩
    have I1 : Inv X pins σ (upd H s.heap.objs.size (.tup [.int (i : Nat), x])) { s with heap := h2, toks := tk + 1 } := by
      refine I.turnedNew (ch := [e, it]) (fun b ob hb q => ?_) hf (Nat.le_refl _) new
      have n1 : b ≠ e := fun z => hb (by simp [z])
      have n2 : b ≠ it := fun z => hb (by simp [z])
      exact (sb.2 b n1).trans (hk b ob n1 n2 q)
    refine ⟨.ref s.heap.objs.size, _, I1, rfl, ⟨_, x, rfl, I.hok.fresh (Nat.le_refl _), rfl, fun ys hy => by rw [I.tuple_inj hy hq]; exact hx⟩, ⟨⟨y, ?_⟩, hst.1.at fun o q => (sb.2 it (Ne.symm hne)).trans q⟩, fun b hb => ?_⟩
    · rw [show ((i + 1 : Nat) : Int) = (i : Int) + 1 by omega]
      exact he'
    · have hl : b < s.heap.objs.size := by
        simp only [List.mem_cons, List.not_mem_nil, or_false] at hb
        rcases hb with rfl | rfl
        · exact hel
        · exact hil
      rw [upd_ne (Nat.ne_of_lt hl)]
      exact (hf b hb).1
  done := by
    intro X hP hw hK hc i pins s σ H E I hf st hg
    subst hP hw hK
    obtain ⟨⟨old, he⟩, hit⟩ := st
    obtain ⟨xs, hq, hx⟩ := hg
    obtain ⟨its, rv, p, hz⟩ := I.tuple hq
    obtain ⟨f0, f1, f2, f3, f4, f5⟩ := hf it (by simp)
    have hl := rv.length
    have D : Draws X.prog X.w X.A.in1 it [it, a] i (fun _ _ => True) (fun j h => j = i ∧ h.IsTupleIter it a i ∧ h.IsTuple a its.toArray) :=
      { live := fun _ _ st => let ⟨o, ho, _⟩ := st.2.1; ⟨o, ho⟩
        frame := fun _ _ _ st k => ⟨st.1, st.2.1.at fun o q => k it (by simp) o q, st.2.2.at fun o q => k a (by simp) o q⟩
        item := fun j s Q E hj st _ => absurd st.1 (Nat.ne_of_lt hj)
        done := fun s Q E st hE => wpAny_nextOf_tuple_end (I.ok.hd hc) st.2.1 st.2.2 (by simp; omega) hE }
    exact wpAny_pyNext_enum_endD D he ⟨rfl, hit, p⟩ fun h' eb => ⟨rfl, I.turned (t' := s.toks) (fun b o hb q => eb b o hb q) f0 f1 f3 f4 f5⟩
  self := fun A i s Q E st h => let ⟨⟨_, he⟩, _⟩ := st; wpAny_pyIter_enum he h
def iEnumT (K : PySem.W.Frag) (ta : TA) : TI := fun σ H R => ta σ H fun vs H1 => ∃ a xs, vs = [.ref a] ∧ SqT K H1 a xs ∧ R (ItE K a) H1
theorem pi_enumT {X : Cx} {e : Expr} {ta : TA} {p pos tpos : Pos} {elts : List Expr} {kk : Nat} (hg : Gl X "enumerate") (hm : X.mg "enumerate" = none) (ha : PA X [e] ta) (hs : starEach [e] X.env = [(false, eval e X.env)] := by rfl) :
    PI X (.Tuple elts kk tpos) (.Call (.Name "enumerate" p) [e] [] pos) (iEnumT X.K ta) := by
  refine ⟨fun pins s σ H R I h => ?_⟩
  refine Call_ (ld_blt I hg hm boot_enumerate (PyProof.Rows.callWith_type1 (thn (ha.run pos pins s σ H _ I h) fun us s1 ⟨vs, H1, I1, r1, q1⟩ => ?_) hs rfl))
  obtain ⟨a, xs, ex, hq, q⟩ := q1
  subst ex
  cases r1 with
  | cons r rr =>
    cases rr
    cases r
    obtain ⟨its, rv, p', hz⟩ := I1.tuple hq
    have hal : a < s1.heap.objs.size := by
      obtain ⟨o, e, _⟩ := p'
      exact Heap.lt_size e
    refine call_enumT p' fun h' he hit hk => wpAny_pyIter_enum he ?_
    refine ⟨s1.heap.objs.size + 1, [s1.heap.objs.size + 1, s1.heap.objs.size], _, _, H1, rfl, I1.kept (t' := s1.toks) hk, turn_enumT a (s1.heap.objs.size + 1) s1.heap.objs.size (fun z => absurd hal (by rw [← z]; exact Nat.not_lt.mpr (Nat.le_succ _))) (Nat.ne_of_lt hal) (Nat.succ_ne_self _), ⟨⟨.none, he⟩, hit⟩, fun b hb => ?_, q⟩
    have hle : s1.heap.objs.size ≤ b := by
      simp only [List.mem_cons, List.not_mem_nil, or_false] at hb
      rcases hb with rfl | rfl
      · exact Nat.le_succ _
      · exact Nat.le_refl _
    exact I1.fpOk hle (I1.hok.fresh hle)
/-! ### the mathematics: all fillings, in order -/
def cnt (n : Int) (ws : List Int) : Int := (ws.map fun x => n ^ x.toNat).sum
theorem cnt_take {n : Int} {ws : List Int} {i : Nat} {x : Int} (h : ws[i]? = some x) : cnt n (ws.take (i + 1)) = cnt n (ws.take i) + n ^ x.toNat := by
  unfold cnt
  rw [List.map_take, List.map_take]
  refine sum_take ?_
  rw [List.getElem?_map, h]
  rfl
theorem cnt_nonneg {n : Int} (h : 0 ≤ n) : ∀ ws : List Int, 0 ≤ cnt n ws
  | [] => Int.le_refl 0
  | x :: r => by
    have ih := cnt_nonneg h r
    have h1 : 0 ≤ n ^ x.toNat := Int.pow_nonneg h
    show 0 ≤ (n ^ x.toNat :: r.map fun x => n ^ x.toNat).sum
    rw [List.sum_cons]
    exact Int.add_nonneg h1 ih
theorem cnt_app (n : Int) (a b : List Int) : cnt n (a ++ b) = cnt n a + cnt n b := by
  unfold cnt
  rw [List.map_append, List.sum_append]
theorem cnt_take_le {n : Int} (h : 0 ≤ n) (ws : List Int) (i : Nat) : cnt n (ws.take i) ≤ cnt n ws := by
  have e : cnt n ws = cnt n (ws.take i) + cnt n (ws.drop i) := by rw [← cnt_app, List.take_append_drop]
  have := cnt_nonneg h (ws.drop i)
  omega
theorem cnt_term {n : Int} (h : 0 ≤ n) {ws : List Int} {i : Nat} {x : Int} (e : ws[i]? = some x) : n ^ x.toNat ≤ cnt n ws := by
  have h1 := cnt_take (n := n) e
  have h2 := cnt_take_le h ws (i + 1)
  have h3 := cnt_nonneg h (ws.take i)
  omega
/-- all rows of w things below n, rising -/
def rows (n : Nat) : Nat → List (List Int)
  | 0 => [[]]
  | w + 1 => (rows n w).flatMap fun r => (List.range n).map fun (t : Nat) => r ++ [(t : Int)]
theorem rows_len (n : Nat) : ∀ w, (rows n w).length = n ^ w
  | 0 => rfl
  | w + 1 => by
    have ih := rows_len n w
    rw [rows, List.length_flatMap]
    have e : (List.map (fun a => ((List.range n).map fun (t : Nat) => a ++ [(t : Int)]).length) (rows n w)) = List.replicate (rows n w).length n := by
      rw [List.eq_replicate_iff]
      refine ⟨by rw [List.length_map], fun b hb => ?_⟩
      obtain ⟨a, _, rfl⟩ := List.mem_map.mp hb
      rw [List.length_map, List.length_range]
    rw [e, List.sum_replicate_nat, ih, Nat.pow_succ]
theorem rows_mem {n : Nat} : ∀ {w : Nat} {r : List Int}, r ∈ rows n w → r.length = w ∧ ∀ x ∈ r, 0 ≤ x ∧ x < (n : Int)
  | 0, r, h => by
    rw [List.mem_singleton.mp h]
    exact ⟨rfl, fun x hx => by cases hx⟩
  | w + 1, r, h => by
    obtain ⟨a, ha, hr⟩ := List.mem_flatMap.mp h
    obtain ⟨t, ht, rfl⟩ := List.mem_map.mp hr
    obtain ⟨h1, h2⟩ := rows_mem ha
    refine ⟨by rw [List.length_append, h1]; rfl, fun x hx => ?_⟩
    rcases List.mem_append.mp hx with hx | hx
    · exact h2 x hx
    · rw [List.mem_singleton.mp hx]
      have := List.mem_range.mp ht
      omega
def LtL : List Int → List Int → Prop
  | a :: as, b :: bs => a < b ∨ (a = b ∧ LtL as bs)
  | _, _ => False
theorem ltl_app : ∀ {a b : List Int} (c d : List Int), LtL a b → LtL (a ++ c) (b ++ d)
  | x :: xs, y :: ys, c, d, h => by
    rcases h with h | ⟨h1, h2⟩
    · exact .inl h
    · exact .inr ⟨h1, ltl_app c d h2⟩
theorem ltl_last : ∀ (a : List Int) {x y : Int}, x < y → LtL (a ++ [x]) (a ++ [y])
  | [], x, y, h => .inl h
  | z :: zs, x, y, h => .inr ⟨rfl, ltl_last zs h⟩
theorem rows_sorted (n : Nat) : ∀ w, (rows n w).Pairwise LtL
  | 0 => List.pairwise_singleton _ _
  | w + 1 => by
    rw [rows, List.pairwise_flatMap]
    refine ⟨fun r _ => ?_, (rows_sorted n w).imp fun {a b} h x hx y hy => ?_⟩
    · rw [List.pairwise_map]
      exact List.pairwise_lt_range.imp fun {i j} h => ltl_last r (by omega)
    · obtain ⟨i, _, rfl⟩ := List.mem_map.mp hx
      obtain ⟨j, _, rfl⟩ := List.mem_map.mp hy
      exact ltl_app _ _ h
def one (n : Nat) (ws : List Int) (j : Nat) : List (Int × List Int) := (rows n ((ws.getD j 0).toNat)).map fun r => ((j : Int), r)
/-- the fillings of the first i trays -/
def fills (n : Nat) (ws : List Int) (i : Nat) : List (Int × List Int) := (List.range i).flatMap (one n ws)
theorem fills_succ (n : Nat) (ws : List Int) (i : Nat) : fills n ws (i + 1) = fills n ws i ++ one n ws i := by
  unfold fills
  rw [List.range_succ, List.flatMap_append]
  simp
theorem fills_len {n : Nat} {ws : List Int} : ∀ {i : Nat}, i ≤ ws.length → ((fills n ws i).length : Int) = cnt (n : Int) (ws.take i)
  | 0, _ => by
    rw [List.take_zero]
    rfl
  | i + 1, h => by
    have ih := fills_len (n := n) (ws := ws) (i := i) (by omega)
    have g : ws[i]? = some ws[i] := List.getElem?_eq_getElem (by omega)
    rw [fills_succ, List.length_append, cnt_take g]
    unfold one
    rw [List.length_map, rows_len, List.getD_eq_getElem?_getD, g]
    show (((fills n ws i).length + n ^ ws[i].toNat : Nat) : Int) = _
    rw [Int.natCast_add, ih, Int.natCast_pow]
def LtP (a b : Int × List Int) : Prop := a.1 < b.1 ∨ (a.1 = b.1 ∧ LtL a.2 b.2)
theorem fills_sorted (n : Nat) (ws : List Int) (i : Nat) : (fills n ws i).Pairwise LtP := by
  unfold fills
  rw [List.pairwise_flatMap]
  refine ⟨fun j _ => ?_, List.pairwise_lt_range.imp fun {a b} h x hx y hy => ?_⟩
  · unfold one
    rw [List.pairwise_map]
    exact (rows_sorted n _).imp fun h => .inr ⟨rfl, h⟩
  · obtain ⟨r, _, rfl⟩ := List.mem_map.mp hx
    obtain ⟨q, _, rfl⟩ := List.mem_map.mp hy
    exact .inl (show (a : Int) < (b : Int) by omega)
theorem fills_mem {n : Nat} {ws : List Int} {i : Nat} {p : Int × List Int} (hi : i ≤ ws.length) (hw : ∀ x ∈ ws, 0 ≤ x ∧ x ≤ 12) (h : p ∈ fills n ws i) : 0 ≤ p.1 ∧ p.1 < (ws.length : Int) ∧ ws[p.1.toNat]? = some ((p.2.length : Nat) : Int) ∧ ∀ x ∈ p.2, 0 ≤ x ∧ x < (n : Int) := by
  obtain ⟨j, hj, hp⟩ := List.mem_flatMap.mp h
  have hj' := List.mem_range.mp hj
  obtain ⟨r, hr, rfl⟩ := List.mem_map.mp hp
  obtain ⟨h1, h2⟩ := rows_mem hr
  have g : ws[j]? = some ws[j] := List.getElem?_eq_getElem (by omega)
  have hb := hw ws[j] (List.getElem_mem _)
  refine ⟨by omega, by show (j : Int) < _; omega, ?_, h2⟩
  show ws[((j : Int)).toNat]? = some ((r.length : Nat) : Int)
  rw [h1, List.getD_eq_getElem?_getD, g, Int.toNat_natCast]
  rw [g]
  congr 1
  show ws[j] = ((ws[j].toNat : Nat) : Int)
  omega
theorem pow_le_of {n : Nat} {i w : Nat} (h : i ≤ w) (hw : n ^ w ≤ 2000) : n ^ i ≤ 2000 := by
  cases n with
  | zero =>
    cases i with
    | zero => exact by decide
    | succ i => rw [Nat.zero_pow (by omega)]; omega
  | succ n => exact Nat.le_trans (Nat.pow_le_pow_right (by omega) h) hw
/-! ### < of pairs as the model has it -/
def dPair (p : Int × List Int) : PyData := .tuple [.int p.1, .tuple (p.2.map PyData.int)]
theorem alike_ints : ∀ a b : List Int, PySem.W.alikeAll (a.map PyData.int) (b.map PyData.int) = true
  | [], b => by simp [PySem.W.alikeAll]
  | x :: a, [] => by simp [PySem.W.alikeAll]
  | x :: a, y :: b => by
    have ih := alike_ints a b
    simp only [List.map_cons, PySem.W.alikeAll, PySem.W.alike, Bool.true_and]
    exact ih
theorem alike_pair (p q : Int × List Int) : PySem.W.alike (dPair p) (dPair q) = true := by
  have h := alike_ints p.2 q.2
  simp only [dPair, PySem.W.alike, PySem.W.alikeAll, h, Bool.and_true]
theorem eqv_ints_ne {a b : Int} (h : a ≠ b) : PyData.eqv (.int a) (.int b) = false := by
  simp only [PyData.eqv]
  exact beq_eq_false_iff_ne.mpr h
theorem eqv_int (a : Int) : PyData.eqv (.int a) (.int a) = true := by
  simp only [PyData.eqv]
  exact beq_self_eq_true a
theorem ltl_data : ∀ {a b : List Int}, LtL a b → PyProof.Rows.lexLt PyProof.Rows.itemOrd (PySem.W.keyToksAll (a.map PyData.int)) (PySem.W.keyToksAll (b.map PyData.int)) = true ∧ PyData.eqvAll (a.map PyData.int) (b.map PyData.int) = false
  | x :: xs, y :: ys, h => by
    rw [List.map_cons, List.map_cons]
    by_cases e : x = y
    · subst e
      rcases h with h | ⟨_, h⟩
      · exact absurd h (Int.lt_irrefl x)
      · obtain ⟨h1, h2⟩ := ltl_data h
        refine ⟨?_, ?_⟩
        · rw [PySem.W.dataLt_all_yes (by simp [PySem.W.alike]) (eqv_int x)]
          exact h1
        · rw [PySem.W.eqv_all_cons, h2, Bool.and_false]
    · have hlt : x < y := by
        rcases h with h | ⟨h, _⟩
        · exact h
        · exact absurd h e
      refine ⟨?_, ?_⟩
      · rw [PySem.W.dataLt_all_no (by simp [PySem.W.alike]) (eqv_ints_ne e), PySem.W.dataLt_int]
        exact decide_eq_true hlt
      · rw [PySem.W.eqv_all_cons, eqv_ints_ne e, Bool.false_and]
theorem ltp_data {p q : Int × List Int} (h : LtP p q) : PySem.W.dataLt (dPair p) (dPair q) = true := by
  unfold dPair
  rw [PySem.W.dataLt_tuple]
  by_cases e : p.1 = q.1
  · rcases h with h | ⟨_, h⟩
    · omega
    · obtain ⟨h1, h2⟩ := ltl_data h
      rw [e, PySem.W.dataLt_all_yes (by simp [PySem.W.alike]) (eqv_int q.1)]
      rw [PySem.W.dataLt_all_no (by simp only [PySem.W.alike]; exact alike_ints _ _) (by simp only [PyData.eqv]; exact h2), PySem.W.dataLt_tuple]
      exact h1
  · rw [PySem.W.dataLt_all_no (by simp [PySem.W.alike]) (eqv_ints_ne e), PySem.W.dataLt_int]
    rcases h with h | ⟨h, _⟩
    · exact decide_eq_true h
    · exact absurd h e
/-- the inner walk over a range of a comprehension with two fors -/
theorem in_range {n : Nat} {g : TG} {tt : TT} {te : TE} {vs : List Nat} {σ : L2.St} {H4 : Hp} {D : Addr} {Nx : Hp → Prop} (Pv : Nat → Hp → Prop) (h0 : Pv 0 H4)
    (hs : ∀ j H, j < n → Pv j H → g (.int (0 + j)) (wipe σ vs) H fun σ3 H5 => wipe σ3 vs = wipe σ vs ∧ tt σ3 H5 fun b H6 => if b = true then te σ3 H6 fun y H7 => ∃ acc, H7 D = some (.lst acc) ∧ acc.length < sizeLine ∧ Pv (j + 1) (upd H7 D (.lst (acc ++ [y]))) else Pv (j + 1) H6)
    (hd : ∀ H, Pv n H → Nx H) :
    ∃ W1 : Nat → Nat → Hp → Prop, (∃ m, W1 0 m H4) ∧ ∀ j k H, W1 j k H → ((Itr 0 n).stop j H ∧ Nx H) ∨ ((Itr 0 n).go j H ∧ ∃ Nx1 : Hp → Prop, (∀ H', Nx1 H' → ∃ k', k' < k ∧ W1 (j + 1) k' H') ∧ ∀ x H', (Itr 0 n).yld j H x H' → g x (wipe σ vs) H' fun σ3 H5 => wipe σ3 vs = wipe σ vs ∧ tt σ3 H5 fun b H6 =>
      if b = true then te σ3 H6 fun y H7 => ∃ acc, H7 D = some (.lst acc) ∧ acc.length < sizeLine ∧ Nx1 (upd H7 D (.lst (acc ++ [y]))) else Nx1 H6) := by
  refine ⟨fun j m H => m = n - j ∧ j ≤ n ∧ Pv j H, ⟨n, by omega, Nat.zero_le _, h0⟩, fun j k H hW => ?_⟩
  obtain ⟨rfl, hj, p⟩ := hW
  by_cases hlt : j < n
  · refine .inr ⟨hlt, Pv (j + 1), fun H' p' => ⟨n - (j + 1), by omega, rfl, hlt, p'⟩, fun x H' y => ?_⟩
    obtain ⟨e, y⟩ := y
    subst e y
    exact hs j _ hlt p
  · obtain rfl : j = n := by omega
    exact .inl ⟨Nat.le_refl _, hd H p⟩
/-- the outer walk over a list -/
theorem out_list {K : PySem.W.Frag} {a : Addr} {xs : List V} {D : Addr} {H1 : Hp} {Qd : Hp → Prop} {body : (Hp → Prop) → V → Hp → Prop} (Pv : Nat → Hp → Prop) (h0 : Pv 0 (upd H1 D (.lst []))) (hl : ∀ i H, i ≤ xs.length → Pv i H → SqL K H a xs)
    (hs : ∀ i x H, xs[i]? = some x → Pv i H → body (Pv (i + 1)) x H) (hd : ∀ H, Pv xs.length H → Qd H) :
    ∃ W : Nat → Nat → Hp → Prop, (∃ m, W 0 m (upd H1 D (.lst []))) ∧ ∀ i m H, W i m H → ((Itl K a).stop i H ∧ Qd H) ∨ ((Itl K a).go i H ∧ ∃ Nx : Hp → Prop, (∀ H', Nx H' → ∃ m', m' < m ∧ W (i + 1) m' H') ∧ ∀ x H', (Itl K a).yld i H x H' → body Nx x H') := by
  refine ⟨fun i m H => m = xs.length - i ∧ i ≤ xs.length ∧ Pv i H, ⟨xs.length, by omega, Nat.zero_le _, h0⟩, fun i m H hW => ?_⟩
  obtain ⟨rfl, hi, p⟩ := hW
  have q := hl i H hi p
  by_cases hlt : i < xs.length
  · refine .inr ⟨⟨xs, xs[i], q, by simp [hlt]⟩, Pv (i + 1), fun H' p' => ⟨xs.length - (i + 1), by omega, rfl, hlt, p'⟩, fun x H' y => ?_⟩
    obtain ⟨e, y⟩ := y
    subst e
    exact hs i x _ (y xs q) p
  · obtain rfl : i = xs.length := by omega
    exact .inl ⟨⟨xs, q, Nat.le_refl _⟩, hd H p⟩
theorem small2000 {n : Nat} (h : n ≤ 3000) : n < sizeLine := Nat.lt_of_le_of_lt h (by decide)
/-- what H says of tuples H' says too -/
def KeepT (H H' : Hp) : Prop := ∀ a ys, H a = some (.tup ys) → H' a = some (.tup ys)
theorem KeepT.of_same {H H' : Hp} (h : Same H H') : KeepT H H' := fun a ys e => h a _ e
theorem keep_lst {H : Hp} {D : Addr} {acc acc' : List V} (h : H D = some (.lst acc)) : KeepT H (upd H D (.lst acc')) := fun a ys e => by
  rw [upd_ne (ne_of e h (fun z => by cases z))]
  exact e
/-- xs are tuples of the rows rs -/
def Tups (H : Hp) (xs : List V) (rs : List (List Int)) : Prop := xs.length = rs.length ∧ ∀ (i : Nat) (x : V) (r : List Int), xs[i]? = some x → rs[i]? = some r → ∃ a, x = .ref a ∧ H a = some (.tup (r.map V.int))
theorem Tups.keep {H H' : Hp} {xs : List V} {rs : List (List Int)} (h : Tups H xs rs) (k : KeepT H H') : Tups H' xs rs := ⟨h.1, fun i x r h1 h2 => by
  obtain ⟨a, e, q⟩ := h.2 i x r h1 h2
  exact ⟨a, e, k _ _ q⟩⟩
theorem Tups.push {H : Hp} {xs : List V} {rs : List (List Int)} {a : Addr} {r : List Int} (h : Tups H xs rs) (e : H a = some (.tup (r.map V.int))) : Tups H (xs ++ [.ref a]) (rs ++ [r]) := by
  refine ⟨by rw [List.length_append, List.length_append, h.1]; rfl, fun i x q h1 h2 => ?_⟩
  by_cases hi : i < xs.length
  · rw [List.getElem?_append_left hi] at h1
    rw [List.getElem?_append_left (by rw [← h.1]; exact hi)] at h2
    exact h.2 i x q h1 h2
  · have hlt : i < (xs ++ [V.ref a]).length := (List.getElem?_eq_some_iff.mp h1).1
    rw [List.length_append] at hlt
    have ei : i = xs.length := by
      have : ([V.ref a] : List V).length = 1 := rfl
      omega
    subst ei
    rw [List.getElem?_append_right (Nat.le_refl _), Nat.sub_self] at h1
    rw [h.1, List.getElem?_append_right (Nat.le_refl _), Nat.sub_self] at h2
    cases h1
    cases h2
    exact ⟨a, rfl, e⟩
theorem for_enumT {K : PySem.W.Frag} {a : Addr} {xs : List V} {g : TG} {tb : TS} {D : Ends} {σ : L2.St} {H : Hp} (Pv : Nat → L2.St → Hp → Prop) (h0 : Pv 0 σ H) (hl : ∀ i σ H, i ≤ xs.length → Pv i σ H → SqT K H a xs)
    (hs : ∀ (i : Nat) x σ H T, xs[i]? = some x → Pv i σ H → H T = none → g (.ref T) σ (upd H T (.tup [.int (i : Int), x])) fun σ2 H2 => tb { D with nx := Pv (i + 1), ct := Pv (i + 1), bk := D.nx } σ2 H2) (hd : ∀ σ H, Pv xs.length σ H → D.nx σ H) :
    ∃ W : Nat → Nat → L2.St → Hp → Prop, (∃ m, W 0 m σ H) ∧ ∀ i m σ H, W i m σ H →
      ((ItE K a).stop i H ∧ D.nx σ H) ∨ ((ItE K a).go i H ∧ ∃ N : L2.St → Hp → Prop, (∀ σ' H', N σ' H' → ∃ m', m' < m ∧ W (i + 1) m' σ' H') ∧ ∀ x H', (ItE K a).yld i H x H' → g x σ H' fun σ2 H2 => tb { D with nx := N, ct := N, bk := D.nx } σ2 H2) := by
  refine ⟨fun i m σ H => m = xs.length - i ∧ i ≤ xs.length ∧ Pv i σ H, ⟨xs.length, by omega, Nat.zero_le _, h0⟩, fun i m σ H hW => ?_⟩
  obtain ⟨rfl, hi, p⟩ := hW
  have q := hl i σ H hi p
  by_cases hlt : i < xs.length
  · refine .inr ⟨⟨xs, xs[i], q, by simp [hlt]⟩, Pv (i + 1), fun σ' H' p' => ⟨xs.length - (i + 1), by omega, rfl, hlt, p'⟩, fun x H' y => ?_⟩
    obtain ⟨T, z, rfl, hT, rfl, hz⟩ := y
    exact hs i z σ H T (hz xs q) p hT
  · obtain rfl : i = xs.length := by omega
    exact .inl ⟨⟨xs, q, Nat.le_refl _⟩, hd σ H p⟩
/-- xs are pairs of a tray's number and a tuple of things -/
def Pairs (H : Hp) (xs : List V) (fs : List (Int × List Int)) : Prop := xs.length = fs.length ∧ ∀ (i : Nat) (x : V) (p : Int × List Int), xs[i]? = some x → fs[i]? = some p → ∃ a b, x = .ref a ∧ H a = some (.tup [.int p.1, .ref b]) ∧ H b = some (.tup (p.2.map V.int))
theorem Pairs.keep {H H' : Hp} {xs : List V} {fs : List (Int × List Int)} (h : Pairs H xs fs) (k : KeepT H H') : Pairs H' xs fs := ⟨h.1, fun i x r h1 h2 => by
  obtain ⟨a, b, e, q1, q2⟩ := h.2 i x r h1 h2
  exact ⟨a, b, e, k _ _ q1, k _ _ q2⟩⟩
theorem Pairs.push {H : Hp} {xs : List V} {fs : List (Int × List Int)} {a b : Addr} {p : Int × List Int} (h : Pairs H xs fs) (e : H a = some (.tup [.int p.1, .ref b])) (e2 : H b = some (.tup (p.2.map V.int))) : Pairs H (xs ++ [.ref a]) (fs ++ [p]) := by
  refine ⟨by rw [List.length_append, List.length_append, h.1]; rfl, fun i x q h1 h2 => ?_⟩
  by_cases hi : i < xs.length
  · rw [List.getElem?_append_left hi] at h1
    rw [List.getElem?_append_left (by rw [← h.1]; exact hi)] at h2
    exact h.2 i x q h1 h2
  · have hlt : i < (xs ++ [V.ref a]).length := (List.getElem?_eq_some_iff.mp h1).1
    rw [List.length_append] at hlt
    have ei : i = xs.length := by
      have : ([V.ref a] : List V).length = 1 := rfl
      omega
    subst ei
    rw [List.getElem?_append_right (Nat.le_refl _), Nat.sub_self] at h1
    rw [h.1, List.getElem?_append_right (Nat.le_refl _), Nat.sub_self] at h2
    cases h1
    cases h2
    exact ⟨a, b, rfl, e, e2⟩
theorem Kp.get {p l b : Addr} {o : HO} {H H' : Hp} (k : Kp p l H H') (n : b ≠ p ∧ b ≠ l) (e : H b = some o) : H' b = some o := k b o n.1 n.2 e
/-- what the written part says of an own error C without more -/
structure ErrTxt (K : PySem.W.Frag) (mg : Str → Option Value) (x : Str) (C : Addr) : Prop where
  g : mg x = some (.ref C)
  k : PySem.W.keepIn K (.ref C) = true
  b : PySem.W.subIn K (.ref C) (.type "BaseException") = some true
  t : PySem.W.typeIn K (.ref C) = some (.type "type")

theorem lg59 : ((10 : Int) ^ (59 : Int).toNat).natAbs.log2 < 9000 := Nat.lt_of_lt_of_le (PySem.Flt.log2_lt_of (by decide : 0 < 200) (by decide +kernel)) (by decide)
theorem p59 : (0 : Int) < 10 ^ (59 : Int).toNat := by decide +kernel
theorem at_in {xs : List V} {r : Int} {n : Nat} (hn : xs.length = n) (h0 : 0 ≤ r) (h1 : r < (n : Int)) : ∃ v, v ∈ xs ∧ atI xs r = some v := by
  have h2 : r.toNat < xs.length := by omega
  exact ⟨xs[r.toNat], List.getElem_mem h2, at_of (j := r.toNat) (by omega) (List.getElem?_eq_getElem h2)⟩
theorem atW {ws : List Int} {i n : Int} (i0 : 0 ≤ i) (g : ws[i.toNat]? = some n) : atI (ws.map V.int) i = some (.int n) := at_of (j := i.toNat) (by omega) (by rw [List.getElem?_map, g]; rfl)
theorem at0 {x y : V} : atI [x, y] 0 = some x := atI_nat (j := 0) rfl
theorem at1 {x y : V} : atI [x, y] 1 = some y := atI_nat (j := 1) rfl
theorem Kp.keepT {p l : Addr} {H H' : Hp} (S : Sc p l H) (k : Kp p l H H') : KeepT H H' := by
  obtain ⟨n, ns, a, b, e1, e2, _⟩ := S
  exact fun c ys e => k c _ (ne_of e e1 (fun z => by cases z)) (ne_of e e2 (fun z => by cases z)) e
theorem KeepT.trans {H H1 H2 : Hp} (a : KeepT H H1) (b : KeepT H1 H2) : KeepT H H2 := fun c ys e => b c ys (a c ys e)
theorem tab_ne {H : Hp} {p l P : Addr} (S : Sc p l H) (G : GxR.TabG H P) : P ≠ p ∧ P ≠ l := by
  obtain ⟨ps, h, _⟩ := G
  obtain ⟨n, ns, a, b, e1, e2, _⟩ := S
  exact ⟨ne_of h e1 (fun z => by cases z), ne_of h e2 (fun z => by cases z)⟩
theorem TabG_kp {H H' : Hp} {p l P : Addr} (S : Sc p l H) (G : GxR.TabG H P) (k : Kp p l H H') : GxR.TabG H' P := by
  have n := tab_ne S G
  obtain ⟨ps, h, t⟩ := G
  exact ⟨ps, k.get n h, t⟩
theorem tab_keep {H H' : Hp} {P b : Addr} {o : HO} (G : GxR.TabG H P) (k : GxR.Tabbed P H H') (e : H b = some o) (n : ∀ z, o ≠ .tbl z) : H' b = some o := by
  rw [k.2 b fun z => ?_]
  · exact e
  · obtain ⟨ps, hP, _⟩ := G
    rw [z, hP] at e
    exact n ps (Option.some.inj e).symm
theorem Sc_tab {H H' : Hp} {p l P : Addr} (S : Sc p l H) (G : GxR.TabG H P) (k : GxR.Tabbed P H H') : Sc p l H' := by
  obtain ⟨n', ns, a, b, e1, e2, r⟩ := S
  exact ⟨n', ns, a, b, tab_keep G k e1 (fun z q => by cases q), tab_keep G k e2 (fun z q => by cases q), r⟩
/-- the source's records where another list is changed -/
theorem Sc.lst {p l D : Addr} {xs : List V} {H : Hp} (S : Sc p l H) (n : D ≠ p ∧ D ≠ l) : Sc p l (L2.upd H D (.lst xs)) := by
  obtain ⟨n', ns, a, b, e1, e2, r⟩ := S
  refine ⟨n', ns, a, b, ?_, ?_, r⟩
  · rw [upd_ne n.1.symm]
    exact e1
  · rw [upd_ne n.2.symm]
    exact e2
/-- a list that is new against H is changed -/
theorem Kp.lst {p l D : Addr} {xs : List V} {H H' : Hp} (k : Kp p l H H') (f : H D = none) : Kp p l H (L2.upd H' D (.lst xs)) := fun b o h1 h2 e => by
  rw [upd_ne (ne_of_none e f)]
  exact k b o h1 h2 e
/-! ### ways: a tuple of pairs of a number and a tuple of numbers -/
def Way (H : Hp) (a : Addr) (wy : List (Int × List Int)) : Prop := ∃ xs, H a = some (.tup xs) ∧ Pairs H xs wy
theorem Way.keep {H H' : Hp} {a : Addr} {wy : List (Int × List Int)} (h : Way H a wy) (k : KeepT H H') : Way H' a wy := by
  obtain ⟨xs, e, p⟩ := h
  exact ⟨xs, k _ _ e, p.keep k⟩
/-- wy is a way from ws to us -/
def WayOk (ws us : List Int) (wy : List (Int × List Int)) : Prop := wy.length = ws.length ∧ ∀ (i : Nat) (p : Int × List Int) (x : Int), wy[i]? = some p → ws[i]? = some x → 0 ≤ p.1 ∧ p.1 < (us.length : Int) ∧ us[p.1.toNat]? = some ((p.2.length : Nat) : Int) ∧ ∀ y ∈ p.2, 0 ≤ y ∧ y < x
/-! ### things at any depth, none of their lists the source's -/
mutual
inductive Dq (N : Addr → Prop) (H : Hp) : V → PyData → Prop
  | non : Dq N H .non .none
  | bl (b : Bool) : Dq N H (.bl b) (.bool b)
  | int (i : Int) : Dq N H (.int i) (.int i)
  | str (x : Str) : Dq N H (.str x) (.str x)
  | lst {a : Addr} {xs : List V} {ds : List PyData} : H a = some (.lst xs) → ¬ N a → DqAll N H xs ds → Dq N H (.ref a) (.list ds)
  | tup {a : Addr} {xs : List V} {ds : List PyData} : H a = some (.tup xs) → DqAll N H xs ds → Dq N H (.ref a) (.tuple ds)
inductive DqAll (N : Addr → Prop) (H : Hp) : List V → List PyData → Prop
  | nil : DqAll N H [] []
  | cons {v : V} {vs : List V} {d : PyData} {ds : List PyData} : Dq N H v d → DqAll N H vs ds → DqAll N H (v :: vs) (d :: ds)
end
/-- what is no record of the source's stays -/
def KeepD (N : Addr → Prop) (H H' : Hp) : Prop := (∀ a ys, H a = some (.tup ys) → H' a = some (.tup ys)) ∧ ∀ a ys, ¬ N a → H a = some (.lst ys) → H' a = some (.lst ys)
mutual
theorem Dq.keep {N : Addr → Prop} {H H' : Hp} (k : KeepD N H H') : ∀ {v : V} {d : PyData}, Dq N H v d → Dq N H' v d
  | _, _, .non => .non
  | _, _, .bl b => .bl b
  | _, _, .int i => .int i
  | _, _, .str x => .str x
  | _, _, .lst e n h => .lst (k.2 _ _ n e) n (DqAll.keep k h)
  | _, _, .tup e h => .tup (k.1 _ _ e) (DqAll.keep k h)
theorem DqAll.keep {N : Addr → Prop} {H H' : Hp} (k : KeepD N H H') : ∀ {vs : List V} {ds : List PyData}, DqAll N H vs ds → DqAll N H' vs ds
  | _, _, .nil => .nil
  | _, _, .cons a b => .cons (Dq.keep k a) (DqAll.keep k b)
end
mutual
theorem Dq.dp {N : Addr → Prop} {H : Hp} {K : PySem.W.Frag} : ∀ {v : V} {d : PyData}, Dq N H v d → Dp K H v d
  | _, _, .non => .non
  | _, _, .bl b => .bl b
  | _, _, .int i => .int i
  | _, _, .str x => .str x
  | _, _, .lst e _ h => .lst (SqL.of e) (DqAll.dp h)
  | _, _, .tup e h => .tup (SqT.of e) (DqAll.dp h)
theorem DqAll.dp {N : Addr → Prop} {H : Hp} {K : PySem.W.Frag} : ∀ {vs : List V} {ds : List PyData}, DqAll N H vs ds → DpAll K H vs ds
  | _, _, .nil => .nil
  | _, _, .cons a b => .cons (Dq.dp a) (DqAll.dp b)
end
theorem DqAll.len {N : Addr → Prop} {H : Hp} : ∀ {vs : List V} {ds : List PyData}, DqAll N H vs ds → vs.length = ds.length
  | _, _, .nil => rfl
  | _, _, .cons _ b => by rw [List.length_cons, List.length_cons, b.len]
theorem DqAll.get {N : Addr → Prop} {H : Hp} : ∀ {vs : List V} {ds : List PyData} {i : Nat} {v : V}, DqAll N H vs ds → vs[i]? = some v → ∃ d, ds[i]? = some d ∧ Dq N H v d
  | _, _, i, _, .nil, h => by simp at h
  | _, _, 0, _, .cons a b, h => by
    cases h
    exact ⟨_, rfl, a⟩
  | _, _, i + 1, _, .cons a b, h => b.get (i := i) h
theorem DqAll.ints {N : Addr → Prop} {H : Hp} : ∀ ns : List Int, DqAll N H (ns.map V.int) (ns.map PyData.int)
  | [] => .nil
  | n :: r => .cons (.int n) (DqAll.ints r)
/-- some datum -/
def Any (N : Addr → Prop) (H : Hp) (v : V) : Prop := ∃ d, Dq N H v d
theorem any_all {N : Addr → Prop} {H : Hp} : ∀ {vs : List V}, (∀ v ∈ vs, Any N H v) → ∃ ds, DqAll N H vs ds
  | [], _ => ⟨[], .nil⟩
  | v :: vs, h => by
    obtain ⟨d, hd⟩ := h v List.mem_cons_self
    obtain ⟨ds, hs⟩ := any_all (vs := vs) fun x hx => h x (List.mem_cons_of_mem _ hx)
    exact ⟨d :: ds, .cons hd hs⟩
theorem all_any {N : Addr → Prop} {H : Hp} : ∀ {vs : List V} {ds : List PyData}, DqAll N H vs ds → ∀ v ∈ vs, Any N H v
  | _, _, .nil, v, h => by cases h
  | _, _, .cons a b, v, h => by
    rcases List.mem_cons.mp h with rfl | h
    · exact ⟨_, a⟩
    · exact all_any b v h
theorem Any.keep {N : Addr → Prop} {H H' : Hp} {v : V} (h : Any N H v) (k : KeepD N H H') : Any N H' v := let ⟨d, hd⟩ := h; ⟨d, hd.keep k⟩
theorem any_non {N : Addr → Prop} {H : Hp} : Any N H .non := ⟨_, .non⟩
theorem any_bl {N : Addr → Prop} {H : Hp} {b : Bool} : Any N H (.bl b) := ⟨_, .bl b⟩
theorem any_int {N : Addr → Prop} {H : Hp} {i : Int} : Any N H (.int i) := ⟨_, .int i⟩
theorem any_str {N : Addr → Prop} {H : Hp} {x : Str} : Any N H (.str x) := ⟨_, .str x⟩
theorem any_tup {N : Addr → Prop} {a : Addr} {H : Hp} {xs : List V} (e : H a = some (.tup xs)) (h : ∀ x ∈ xs, Any N H x) : Any N H (.ref a) := let ⟨_, hs⟩ := any_all h; ⟨_, .tup e hs⟩
theorem any_lst {N : Addr → Prop} {a : Addr} {H : Hp} {xs : List V} (e : H a = some (.lst xs)) (n : ¬ N a) (h : ∀ x ∈ xs, Any N H x) : Any N H (.ref a) := let ⟨_, hs⟩ := any_all h; ⟨_, .lst e n hs⟩
/-! ### their types -/
def tyD : PyData → String
  | .none => "NoneType"
  | .bool _ => "bool"
  | .int _ => "int"
  | .str _ => "str"
  | .list _ => "list"
  | .tuple _ => "tuple"
  | .dict _ => "dict"
def wholeD : PyData → Bool
  | .int _ => true
  | _ => false
def tupD : PyData → Bool
  | .tuple _ => true
  | _ => false
def intD : PyData → Bool
  | .int _ => true
  | .bool _ => true
  | _ => false
def boolD : PyData → Bool
  | .bool _ => true
  | _ => false
theorem dq_ty {K : PySem.W.Frag} {N : Addr → Prop} {H : Hp} {v : V} {d : PyData} (h : Dq N H v d) : TyX K H v (.type (tyD d)) := by
  cases h with
  | non => exact .base .non
  | bl b => exact .base (.bl b)
  | int i => exact .base (.int i)
  | str x => exact .base (.str x)
  | lst e _ _ => exact .base (.lst e)
  | tup e _ => exact .base (.tup e)
theorem kit_tupD {d : PyData} (h : ∀ kvs, d ≠ .dict kvs) : kitB (tyD d) "tuple" = some (tupD d) := by
  cases d <;> first | decide +kernel | exact absurd rfl (h _) | rfl
theorem kit_intD {d : PyData} (h : ∀ kvs, d ≠ .dict kvs) : kitB (tyD d) "int" = some (intD d) := by
  cases d <;> first | decide +kernel | exact absurd rfl (h _) | rfl
theorem kit_boolD {d : PyData} (h : ∀ kvs, d ≠ .dict kvs) : kitB (tyD d) "bool" = some (boolD d) := by
  cases d <;> first | decide +kernel | exact absurd rfl (h _) | rfl
theorem dq_nodict {N : Addr → Prop} {H : Hp} {v : V} {d : PyData} (h : Dq N H v d) : ∀ kvs, d ≠ .dict kvs := by
  cases h <;> intro kvs e <;> cases e
theorem whole_eq (d : PyData) : (intD d && !boolD d) = wholeD d := by cases d <;> rfl
theorem wholeD_int {N : Addr → Prop} {H : Hp} {v : V} {d : PyData} (h : Dq N H v d) (e : wholeD d = true) : ∃ i, v = .int i ∧ d = .int i := by
  cases h <;> first | exact ⟨_, rfl, rfl⟩ | cases e
theorem tupD_tup {N : Addr → Prop} {H : Hp} {v : V} {d : PyData} (h : Dq N H v d) (e : tupD d = true) : ∃ a xs ds, v = .ref a ∧ d = .tuple ds ∧ H a = some (.tup xs) ∧ DqAll N H xs ds := by
  cases h with
  | tup e' hs => exact ⟨_, _, _, rfl, rfl, e', hs⟩
  | non => cases e
  | bl b => cases e
  | int i => cases e
  | str x => cases e
  | lst _ _ _ => cases e
/-! ### what the source's records leave -/
theorem Kp.keepD {p l : Addr} {N : Addr → Prop} {H H' : Hp} (S : Sc p l H) (k : Kp p l H H') (hp : N p) (hl : N l) : KeepD N H H' := by
  refine ⟨k.keepT S, fun c ys h e => k c _ (fun z => h (by rw [z]; exact hp)) (fun z => h (by rw [z]; exact hl)) e⟩
theorem Same.keepD {N : Addr → Prop} {H H' : Hp} (k : Same H H') : KeepD N H H' := ⟨fun _ _ e => k _ _ e, fun _ _ _ e => k _ _ e⟩
theorem KeepD.trans {N : Addr → Prop} {H H1 H2 : Hp} (a : KeepD N H H1) (b : KeepD N H1 H2) : KeepD N H H2 := ⟨fun c ys e => b.1 c ys (a.1 c ys e), fun c ys h e => b.2 c ys h (a.2 c ys h e)⟩
/-- a list among those that are left out is changed -/
theorem keepD_lst {N : Addr → Prop} {H : Hp} {D : Addr} {xs ys : List V} (e : H D = some (.lst xs)) (n : N D) : KeepD N H (upd H D (.lst ys)) := ⟨keep_lst e, fun a zs h q => by
  rw [upd_ne (fun z => h (by rw [z]; exact n))]
  exact q⟩
mutual
theorem Dq.weak {N N' : Addr → Prop} {H : Hp} (k : ∀ a, N' a → N a) : ∀ {v : V} {d : PyData}, Dq N H v d → Dq N' H v d
  | _, _, .non => .non
  | _, _, .bl b => .bl b
  | _, _, .int i => .int i
  | _, _, .str x => .str x
  | _, _, .lst e n h => .lst e (fun z => n (k _ z)) (DqAll.weak k h)
  | _, _, .tup e h => .tup e (DqAll.weak k h)
theorem DqAll.weak {N N' : Addr → Prop} {H : Hp} (k : ∀ a, N' a → N a) : ∀ {vs : List V} {ds : List PyData}, DqAll N H vs ds → DqAll N' H vs ds
  | _, _, .nil => .nil
  | _, _, .cons a b => .cons (Dq.weak k a) (DqAll.weak k b)
end
theorem Any.weak {N N' : Addr → Prop} {H : Hp} {v : V} (h : Any N H v) (k : ∀ a, N' a → N a) : Any N' H v := let ⟨d, hd⟩ := h; ⟨d, hd.weak k⟩
/-- all that are left out stand already -/
def Told (N : Addr → Prop) (H : Hp) : Prop := ∀ a, N a → H a ≠ none
theorem Told.new {N : Addr → Prop} {H : Hp} {a : Addr} (t : Told N H) (h : H a = none) : ¬ N a := fun z => t a z h
theorem Told.kp {p l : Addr} {N : Addr → Prop} {H H' : Hp} (t : Told N H) (S : Sc p l H') (k : Kp p l H H') : Told N H' := fun a n h => t a n (k.free S h)
theorem Told.upd {N : Addr → Prop} {H : Hp} {a : Addr} {o : HO} (t : Told N H) : Told N (L2.upd H a o) := fun b n h => by
  by_cases e : b = a
  · rw [e, upd_same] at h
    cases h
  · rw [upd_ne e] at h
    exact t b n h
/-! ### what is a way, of any datum -/
def wellD (x : Int) : PyData → Bool
  | .int i => decide (0 ≤ i) && decide (i < x)
  | _ => false
def pairD (us : List Int) (x : Int) : PyData → Bool
  | .tuple [.int t, .tuple ds] => decide (0 ≤ t) && decide (t < (us.length : Int)) && decide (us[t.toNat]? = some ((ds.length : Nat) : Int)) && ds.all (wellD x)
  | _ => false
def pairsD (us : List Int) : List Int → List PyData → Bool
  | x :: ws, d :: ds => pairD us x d && pairsD us ws ds
  | [], [] => true
  | _, _ => false
def isWayD (ws us : List Int) : PyData → Bool
  | .tuple ds => pairsD us ws ds
  | _ => false
theorem pairs_len {us : List Int} : ∀ {ws : List Int} {ds : List PyData}, ds.length ≠ ws.length → pairsD us ws ds = false
  | [], [], h => absurd rfl h
  | [], d :: ds, _ => rfl
  | x :: ws, [], _ => rfl
  | x :: ws, d :: ds, h => by
    rw [pairsD, pairs_len (ws := ws) (ds := ds) (fun e => h (by rw [List.length_cons, List.length_cons, e])), Bool.and_false]
theorem pairs_no {us : List Int} : ∀ {ws : List Int} {ds : List PyData} {i : Nat} {x : Int} {d : PyData}, ws[i]? = some x → ds[i]? = some d → pairD us x d = false → pairsD us ws ds = false
  | [], _, i, _, _, h, _, _ => by simp at h
  | _ :: _, [], i, _, _, _, h, _ => by simp at h
  | x :: ws, d :: ds, 0, _, _, h1, h2, h3 => by
    cases h1
    cases h2
    rw [pairsD, h3, Bool.false_and]
  | x :: ws, d :: ds, i + 1, _, _, h1, h2, h3 => by
    rw [pairsD, pairs_no (ws := ws) (ds := ds) (i := i) h1 h2 h3, Bool.and_false]
theorem pairs_yes {us : List Int} : ∀ {ws : List Int} {ds : List PyData}, ds.length = ws.length → (∀ (i : Nat) (x : Int) (d : PyData), ws[i]? = some x → ds[i]? = some d → pairD us x d = true) → pairsD us ws ds = true
  | [], [], _, _ => rfl
  | [], d :: ds, h, _ => by cases h
  | x :: ws, [], h, _ => by cases h
  | x :: ws, d :: ds, h, hh => by
    rw [pairsD, hh 0 x d rfl rfl, Bool.true_and]
    exact pairs_yes (Nat.succ.inj h) fun i x d h1 h2 => hh (i + 1) x d h1 h2
theorem pair_tup {us : List Int} {x : Int} {d : PyData} (h : tupD d = false) : pairD us x d = false := by
  cases d <;> first | rfl | cases h
theorem pair_len {us : List Int} {x : Int} {ds : List PyData} (h : ds.length ≠ 2) : pairD us x (.tuple ds) = false := by
  match ds, h with
  | [], _ => rfl
  | [a], _ => cases a <;> rfl
  | [_, _], h => exact absurd rfl h
  | a :: b :: c :: r, _ => cases a <;> first | rfl | (cases b <;> rfl)
theorem pair_whole {us : List Int} {x : Int} {d e : PyData} (h : wholeD d = false) : pairD us x (.tuple [d, e]) = false := by
  cases d <;> first | rfl | cases h
theorem pair_snd {us : List Int} {x : Int} {d e : PyData} (h : tupD e = false) : pairD us x (.tuple [d, e]) = false := by
  cases d <;> first | rfl | (cases e <;> first | rfl | cases h)
/-- a way as a datum -/
def dWay (wy : List (Int × List Int)) : PyData := .tuple (wy.map dPair)
theorem wells_ints {x : Int} {ns : List Int} (h : ∀ y ∈ ns, 0 ≤ y ∧ y < x) : (ns.map PyData.int).all (wellD x) = true := by
  rw [List.all_eq_true]
  intro d hd
  obtain ⟨y, hy, rfl⟩ := List.mem_map.mp hd
  show (decide (0 ≤ y) && decide (y < x)) = true
  rw [decide_eq_true (h y hy).1, decide_eq_true (h y hy).2]
  rfl
theorem isWayD_ok {ws us : List Int} {wy : List (Int × List Int)} (h : WayOk ws us wy) : isWayD ws us (dWay wy) = true := by
  refine pairs_yes (by rw [List.length_map]; exact h.1) fun i x d h1 h2 => ?_
  rw [List.getElem?_map] at h2
  cases e : wy[i]? with
  | none =>
    rw [e] at h2
    cases h2
  | some p =>
    rw [e] at h2
    cases h2
    obtain ⟨a, b, c, dd⟩ := h.2 i p x e h1
    show (decide (0 ≤ p.1) && decide (p.1 < (us.length : Int)) && decide (us[p.1.toNat]? = some (((p.2.map PyData.int).length : Nat) : Int)) && (p.2.map PyData.int).all (wellD x)) = true
    rw [decide_eq_true a, decide_eq_true b, List.length_map, decide_eq_true c, wells_ints dd]
    rfl
theorem dq_pair {N : Addr → Prop} {H : Hp} {a b : Addr} {q : Int × List Int} (e : H a = some (.tup [.int q.1, .ref b])) (e2 : H b = some (.tup (q.2.map V.int))) : Dq N H (.ref a) (dPair q) := .tup e (.cons (.int _) (.cons (.tup e2 (DqAll.ints q.2)) .nil))
theorem dq_pairs {N : Addr → Prop} {H : Hp} : ∀ {xs : List V} {fs : List (Int × List Int)}, Pairs H xs fs → DqAll N H xs (fs.map dPair)
  | [], [], _ => .nil
  | [], f :: fs, h => by cases h.1
  | x :: xs, [], h => by cases h.1
  | x :: xs, f :: fs, h => by
    obtain ⟨a, b, rfl, e1, e2⟩ := h.2 0 x f rfl rfl
    exact .cons (dq_pair e1 e2) (dq_pairs ⟨Nat.succ.inj h.1, fun i x p h1 h2 => h.2 (i + 1) x p h1 h2⟩)
theorem dq_way {N : Addr → Prop} {H : Hp} {a : Addr} {wy : List (Int × List Int)} (h : Way H a wy) : Dq N H (.ref a) (dWay wy) := by
  obtain ⟨xs, e, ps⟩ := h
  exact .tup e (dq_pairs ps)
/-! ### tuples put together and cut, whatever lies in them -/
theorem Told.same {N : Addr → Prop} {H H' : Hp} (t : Told N H) (s : Same H H') : Told N H' := fun a n h => t a n (s.free h)
theorem Any.same {N : Addr → Prop} {H H' : Hp} {v : V} (h : Any N H v) (s : Same H H') : Any N H' v := h.keep (Same.keepD s)
theorem same_refl {H : Hp} : Same H H := fun _ _ e => e
theorem r_cat {K : PySem.W.Frag} {H : Hp} {a b : Addr} {xs ys : List V} {Q : V → Hp → Prop} (ea : H a = some (.tup xs)) (eb : H b = some (.tup ys)) (hl : xs.length + ys.length ≤ 1000) (q : ∀ c H', Same H H' → H' c = some (.tup (xs ++ ys)) → Q (.ref c) H') : rCatA K (.ref a) (.ref b) H Q :=
  ⟨a, b, xs, ys, rfl, rfl, SqT.of ea, SqT.of eb, Nat.le_of_lt (small1000 hl), fun e => q b H same_refl (by rw [e]; exact eb), fun _ e => q a H same_refl (by rw [e, List.append_nil]; exact ea), fun _ _ p hp => q p _ (same_upd hp) upd_same⟩
theorem r_sl {K : PySem.W.Frag} {H : Hp} {a : Addr} {xs : List V} {lo hi : Option Int} {Q : V → Hp → Prop} (ea : H a = some (.tup xs)) (q : ∀ c H' zs, Same H H' → H' c = some (.tup zs) → (∀ z ∈ zs, z ∈ xs) → zs.length ≤ xs.length → Q (.ref c) H') : rSlA K (.ref a) lo hi H Q :=
  ⟨a, xs, rfl, SqT.of ea, fun _ => q a H xs same_refl ea (fun _ h => h) (Nat.le_refl _), fun _ p hp => q p _ _ (same_upd hp) upd_same (fun z h => List.mem_of_mem_drop (List.mem_of_mem_take h)) (cutV_length _ _ _)⟩
theorem r_slN {K : PySem.W.Frag} {σ : L2.St} {H : Hp} {a : Addr} {xs : List V} {lo : Option Int} {Q : V → Hp → Prop} (ea : H a = some (.tup xs)) (q : ∀ c H' zs, Same H H' → H' c = some (.tup zs) → (∀ z ∈ zs, z ∈ xs) → zs.length ≤ xs.length → Q (.ref c) H') : tNoPart σ H (fun u H3 => rSlA K (.ref a) lo u H3 Q) := r_sl ea q
theorem Any.mems {N : Addr → Prop} {H : Hp} {a : Addr} {xs : List V} (h : Any N H (.ref a)) (e : H a = some (.tup xs)) : ∀ x ∈ xs, Any N H x := by
  obtain ⟨d, hd⟩ := h
  cases hd with
  | lst e' _ _ =>
    rw [e] at e'
    cases e'
  | tup e' hs =>
    rw [e] at e'
    cases e'
    exact all_any hs
/-! ### the data of a way -/
theorem canLay_pairs : ∀ wy : List (Int × List Int), PyData.canLayAll0 (wy.map dPair) = true
  | [] => by simp [PyData.canLayAll0]
  | p :: r => by
    have ih := canLay_pairs r
    have h := canLay_ints p.2
    simp only [List.map_cons, PyData.canLayAll0, dPair, PyData.canLay0, Bool.true_and, Bool.and_true, h]
    exact ih
theorem depth_pairs : ∀ wy : List (Int × List Int), PyData.depthAll (wy.map dPair) ≤ 3
  | [] => by simp [PyData.depthAll]
  | p :: r => by
    have ih := depth_pairs r
    have h := depth_ints p.2
    simp only [List.map_cons, PyData.depthAll, dPair, PyData.depth]
    omega
theorem shaped_way (wy : List (Int × List Int)) : SeqAt.shaped (dWay wy) = true := by
  have h1 := canLay_pairs wy
  have h2 := depth_pairs wy
  unfold SeqAt.shaped
  rw [show PyData.canLay0 (dWay wy) = PyData.canLayAll0 (wy.map dPair) by simp only [dWay, PyData.canLay0], h1, Bool.true_and]
  refine decide_eq_true ?_
  rw [show PyData.depth (dWay wy) = PyData.depthAll (wy.map dPair) + 1 by simp only [dWay, PyData.depth]]
  omega
theorem eqv_way0 : ∀ wy : List (Int × List Int), PyData.eqv (dWay wy) (.tuple []) = wy.isEmpty
  | [] => by simp [dWay, PyData.eqv, PyData.eqvAll]
  | n :: r => by simp [dWay, PyData.eqv, PyData.eqvAll]
/-! ### heaps that grow by things -/
def AnyL (N : Addr → Prop) (H : Hp) (xs : List V) : Prop := ∀ x ∈ xs, Any N H x
theorem AnyL.keep {N : Addr → Prop} {H H' : Hp} {xs : List V} (h : AnyL N H xs) (k : KeepD N H H') : AnyL N H' xs := fun x hx => (h x hx).keep k
theorem AnyL.same {N : Addr → Prop} {H H' : Hp} {xs : List V} (h : AnyL N H xs) (s : Same H H') : AnyL N H' xs := h.keep (Same.keepD s)
theorem anyL_nil {N : Addr → Prop} {H : Hp} : AnyL N H [] := fun x hx => by cases hx
theorem anyL_cons {N : Addr → Prop} {H : Hp} {v : V} {xs : List V} (a : Any N H v) (b : AnyL N H xs) : AnyL N H (v :: xs) := fun x hx => by
  rcases List.mem_cons.mp hx with rfl | hx
  · exact a
  · exact b x hx
theorem anyL_app {N : Addr → Prop} {H : Hp} {xs ys : List V} (a : AnyL N H xs) (b : AnyL N H ys) : AnyL N H (xs ++ ys) := fun x hx => by
  rcases List.mem_append.mp hx with hx | hx
  · exact a x hx
  · exact b x hx
theorem anyL_ints {N : Addr → Prop} {H : Hp} (ns : List Int) : AnyL N H (ns.map V.int) := fun x hx => by
  obtain ⟨n, _, rfl⟩ := List.mem_map.mp hx
  exact any_int
/-- the source stands, the rest is kept, what is left out stands -/
structure Bu (N : Addr → Prop) (p l : Addr) (H0 H : Hp) : Prop where
  sc : Sc p l H
  kp : Kp p l H0 H
  td : Told N H
theorem Bu.same {N : Addr → Prop} {p l : Addr} {H0 H H' : Hp} (b : Bu N p l H0 H) (s : Same H H') : Bu N p l H0 H' := ⟨b.sc.same s, b.kp.trans (.of_same s), b.td.same s⟩
theorem Bu.draw {N : Addr → Prop} {p l : Addr} {H0 H H' : Hp} (b : Bu N p l H0 H) (S : Sc p l H') (k : Kp p l H H') : Bu N p l H0 H' := ⟨S, b.kp.trans k, b.td.kp S k⟩
theorem Bu.free {N : Addr → Prop} {p l a : Addr} {H0 H : Hp} (b : Bu N p l H0 H) (h : H a = none) : H0 a = none := b.kp.free b.sc h
/-- a new tuple -/
theorem new_tup {N : Addr → Prop} {H : Hp} {a : Addr} {xs : List V} (h : H a = none) (hx : AnyL N H xs) : Same H (upd H a (.tup xs)) ∧ Any N (upd H a (.tup xs)) (.ref a) := ⟨same_upd h, any_tup upd_same (hx.same (same_upd h))⟩
/-- a new list -/
theorem new_lst {N : Addr → Prop} {H : Hp} {a : Addr} {xs : List V} (t : Told N H) (h : H a = none) (hx : AnyL N H xs) : Same H (upd H a (.lst xs)) ∧ Any N (upd H a (.lst xs)) (.ref a) := ⟨same_upd h, any_lst upd_same (t.new h) (hx.same (same_upd h))⟩
/-- the list made of a way: at M, of n things -/
def Md (N : Addr → Prop) (p l : Addr) (H0 H3 : Hp) (M : Addr) (n : Nat) (H : Hp) : Prop := ∃ xs, H M = some (.lst xs) ∧ xs.length = n ∧ AnyL N H xs ∧ Bu N p l H0 H ∧ KeepT H3 H
theorem Md.same {N : Addr → Prop} {p l M : Addr} {H0 H3 H H' : Hp} {n : Nat} (m : Md N p l H0 H3 M n H) (s : Same H H') : Md N p l H0 H3 M n H' := by
  obtain ⟨xs, e, hn, ha, b, k⟩ := m
  exact ⟨xs, s _ _ e, hn, ha.same s, b.same s, k.trans (.of_same s)⟩
theorem Md.draw {N : Addr → Prop} {p l M : Addr} {H0 H3 H H' : Hp} {n : Nat} (m : Md N p l H0 H3 M n H) (np : N p) (nl : N l) (nM : M ≠ p ∧ M ≠ l) (S : Sc p l H') (k : Kp p l H H') : Md N p l H0 H3 M n H' := by
  obtain ⟨xs, e, hn, ha, b, k3⟩ := m
  exact ⟨xs, k.get nM e, hn, ha.keep (k.keepD b.sc np nl), b.draw S k, k3.trans (k.keepT b.sc)⟩
theorem Md.set {N : Addr → Prop} {p l M : Addr} {H0 H3 H : Hp} {n j : Nat} {v : V} {xs : List V} (m : Md N p l H0 H3 M n H) (e : H M = some (.lst xs)) (hM : N M) (nM : M ≠ p ∧ M ≠ l) (f : H0 M = none) (hv : Any N H v) : Md N p l H0 H3 M n (upd H M (.lst (xs.set j v))) := by
  obtain ⟨xs', e', hn, ha, b, k3⟩ := m
  rw [e] at e'
  cases e'
  have kd : KeepD N H (upd H M (.lst (xs.set j v))) := keepD_lst e hM
  refine ⟨_, upd_same, by rw [List.length_set]; exact hn, fun x hx => ?_, ⟨b.sc.lst nM, b.kp.lst f, b.td.upd⟩, k3.trans (keep_lst e)⟩
  rcases List.mem_or_eq_of_mem_set hx with hx | rfl
  · exact (ha x hx).keep kd
  · exact hv.keep kd
/-- the place ahead, the last one behind nought -/
theorem ahead {n : Nat} {a : Int} (h0 : 0 ≤ a) (h1 : a < (n : Int)) : ∃ j, ixN n (a - 1) = some j ∧ j < n := by
  unfold ixN
  by_cases h : 0 ≤ a - 1
  · rw [if_pos h, if_pos (by omega)]
    exact ⟨_, rfl, by omega⟩
  · rw [if_neg h, if_pos (by omega)]
    exact ⟨_, rfl, by omega⟩
theorem ixN_in {n : Nat} {a : Int} (h0 : 0 ≤ a) (h1 : a < (n : Int)) : ixN n a = some a.toNat := by
  unfold ixN
  rw [if_pos h0, if_pos h1]
theorem at_ixN {xs : List V} {i : Int} {j : Nat} (h : ixN xs.length i = some j) (hj : j < xs.length) : atI xs i = some xs[j] := by
  unfold atI
  rw [h]
  exact List.getElem?_eq_getElem hj
mutual
theorem Dq.eqv_refl {N : Addr → Prop} {H : Hp} : ∀ {v : V} {d : PyData}, Dq N H v d → PyData.eqv d d = true
  | _, _, .non => by simp [PyData.eqv]
  | _, _, .bl b => by simp [PyData.eqv]
  | _, _, .int i => by simp [PyData.eqv]
  | _, _, .str x => by simp [PyData.eqv]
  | _, _, .lst _ _ h => by
    have := DqAll.eqv_refl h
    simpa [PyData.eqv] using this
  | _, _, .tup _ h => by
    have := DqAll.eqv_refl h
    simpa [PyData.eqv] using this
theorem DqAll.eqv_refl {N : Addr → Prop} {H : Hp} : ∀ {vs : List V} {ds : List PyData}, DqAll N H vs ds → PyData.eqvAll ds ds = true
  | _, _, .nil => by simp [PyData.eqvAll]
  | _, _, .cons a b => by
    have h1 := Dq.eqv_refl a
    have h2 := DqAll.eqv_refl b
    simp [PyData.eqvAll, h1, h2]
end
theorem depthAll_cons (d : PyData) (ds : List PyData) : PyData.depthAll (d :: ds) = max (PyData.depth d) (PyData.depthAll ds) := by
  simp [PyData.depthAll]
theorem depthAll_nil : PyData.depthAll [] = 0 := by simp [PyData.depthAll]
theorem depth_tup (ds : List PyData) : PyData.depth (.tuple ds) = PyData.depthAll ds + 1 := by simp [PyData.depth]
theorem depth_lst (ds : List PyData) : PyData.depth (.list ds) = PyData.depthAll ds + 1 := by simp [PyData.depth]
theorem lay_cons (d : PyData) (ds : List PyData) : PyData.canLayAll0 (d :: ds) = (PyData.canLay0 d && PyData.canLayAll0 ds) := by simp [PyData.canLayAll0]
theorem lay_tup (ds : List PyData) : PyData.canLay0 (.tuple ds) = PyData.canLayAll0 ds := by simp [PyData.canLay0]
theorem lay_lst (ds : List PyData) : PyData.canLay0 (.list ds) = PyData.canLayAll0 ds := by simp [PyData.canLay0]
/-- a datum that is not deep -/
def Flat (n : Nat) (d : PyData) : Prop := PyData.canLay0 d = true ∧ PyData.depth d ≤ n
def FlatL (n : Nat) (ds : List PyData) : Prop := PyData.canLayAll0 ds = true ∧ PyData.depthAll ds ≤ n
theorem Flat.shaped {n : Nat} {d : PyData} (h : Flat n d) (hn : n ≤ 64) : SeqAt.shaped d = true := by
  unfold SeqAt.shaped
  rw [h.1, Bool.true_and]
  exact decide_eq_true (Nat.le_trans h.2 hn)
theorem flatL_nil {n : Nat} : FlatL n [] := ⟨by simp [PyData.canLayAll0], by rw [depthAll_nil]; omega⟩
theorem flatL_cons {n : Nat} {d : PyData} {ds : List PyData} (a : Flat n d) (b : FlatL n ds) : FlatL n (d :: ds) := ⟨by rw [lay_cons, a.1, b.1]; rfl, by
  rw [depthAll_cons]
  have h1 := a.2
  have h2 := b.2
  omega⟩
theorem flatL_of {n : Nat} : ∀ {ds : List PyData}, (∀ d ∈ ds, Flat n d) → FlatL n ds
  | [], _ => flatL_nil
  | d :: ds, h => flatL_cons (h d List.mem_cons_self) (flatL_of fun x hx => h x (List.mem_cons_of_mem _ hx))
theorem flatL_mem {n : Nat} : ∀ {ds : List PyData}, FlatL n ds → ∀ d ∈ ds, Flat n d
  | [], _, d, hd => by cases hd
  | e :: ds, h, d, hd => by
    obtain ⟨h1, h2⟩ := h
    rw [lay_cons, Bool.and_eq_true] at h1
    rw [depthAll_cons] at h2
    rcases List.mem_cons.mp hd with rfl | hd
    · exact ⟨h1.1, by omega⟩
    · exact flatL_mem (ds := ds) ⟨h1.2, by omega⟩ d hd
theorem flat_tup {n : Nat} {ds : List PyData} (h : FlatL n ds) : Flat (n + 1) (.tuple ds) := ⟨by rw [lay_tup]; exact h.1, by rw [depth_tup]; exact Nat.succ_le_succ h.2⟩
theorem flat_lst {n : Nat} {ds : List PyData} (h : FlatL n ds) : Flat (n + 1) (.list ds) := ⟨by rw [lay_lst]; exact h.1, by rw [depth_lst]; exact Nat.succ_le_succ h.2⟩
theorem Flat.mono {n m : Nat} {d : PyData} (h : Flat n d) (k : n ≤ m) : Flat m d := ⟨h.1, Nat.le_trans h.2 k⟩
theorem flat_int {n : Nat} (i : Int) : Flat n (.int i) := ⟨by simp [PyData.canLay0], by simp [PyData.depth]⟩
theorem flat_non {n : Nat} : Flat n .none := ⟨by simp [PyData.canLay0], by simp [PyData.depth]⟩
theorem flat_bl {n : Nat} (b : Bool) : Flat n (.bool b) := ⟨by simp [PyData.canLay0], by simp [PyData.depth]⟩
theorem flat_str {n : Nat} {x : Str} (h : PyData.strOk x = true) : Flat n (.str x) := ⟨by simp [PyData.canLay0, h], by simp [PyData.depth]⟩
theorem flatL_ints {n : Nat} (ns : List Int) : FlatL n (ns.map PyData.int) := flatL_of fun d hd => by
  obtain ⟨i, _, rfl⟩ := List.mem_map.mp hd
  exact flat_int i
/-- some flat datum -/
def AnyF (N : Addr → Prop) (n : Nat) (H : Hp) (v : V) : Prop := ∃ d, Dq N H v d ∧ Flat n d
theorem AnyF.keep {N : Addr → Prop} {n : Nat} {H H' : Hp} {v : V} (h : AnyF N n H v) (k : KeepD N H H') : AnyF N n H' v := let ⟨d, a, b⟩ := h; ⟨d, a.keep k, b⟩
theorem anyF_all {N : Addr → Prop} {n : Nat} {H : Hp} : ∀ {vs : List V}, (∀ v ∈ vs, AnyF N n H v) → ∃ ds, DqAll N H vs ds ∧ FlatL n ds
  | [], _ => ⟨[], .nil, flatL_nil⟩
  | v :: vs, h => by
    obtain ⟨d, hd, hf⟩ := h v List.mem_cons_self
    obtain ⟨ds, hs, hg⟩ := anyF_all (vs := vs) fun x hx => h x (List.mem_cons_of_mem _ hx)
    exact ⟨d :: ds, .cons hd hs, flatL_cons hf hg⟩
/-! ### numbers of fillings and of ways -/
/-- the number of a row of things below n -/
def dig (n : Int) : List Int → Int
  | [] => 0
  | t :: r => t * n ^ r.length + dig n r
def Below (n : Int) (r : List Int) : Prop := ∀ y ∈ r, 0 ≤ y ∧ y < n
theorem below_cons {n t : Int} {r : List Int} (h : Below n (t :: r)) : 0 ≤ t ∧ t < n ∧ Below n r := ⟨(h t List.mem_cons_self).1, (h t List.mem_cons_self).2, fun y hy => h y (List.mem_cons_of_mem _ hy)⟩
theorem pow_nn {n : Int} {k : Nat} (h : 0 ≤ n) : 0 ≤ n ^ k := Int.pow_nonneg h
/-- two places: less by the first -/
theorem two_lt {a b m x y : Int} (hm : 0 ≤ m) (ha : a < b) (hx : x < m) (hy : 0 ≤ y) : a * m + x < b * m + y := by
  have h : (a + 1) * m ≤ b * m := Int.mul_le_mul_of_nonneg_right (by omega) hm
  rw [Int.add_mul, Int.one_mul] at h
  omega
theorem dig_bound {n : Int} : ∀ {r : List Int}, Below n r → 0 ≤ dig n r ∧ dig n r < n ^ r.length
  | [], _ => ⟨Int.le_refl 0, by show (0 : Int) < n ^ 0; rw [Int.pow_zero]; decide⟩
  | t :: r, h => by
    obtain ⟨h0, h1, h2⟩ := below_cons h
    obtain ⟨i0, i1⟩ := dig_bound h2
    have hm : 0 ≤ n ^ r.length := pow_nn (by omega)
    refine ⟨Int.add_nonneg (Int.mul_nonneg h0 hm) i0, ?_⟩
    have := two_lt hm h1 i1 (Int.le_refl 0)
    rw [Int.add_zero] at this
    rw [List.length_cons, Int.pow_succ, Int.mul_comm (n ^ r.length) n]
    exact this
theorem dig_lt {n : Int} : ∀ {a b : List Int}, a.length = b.length → Below n a → Below n b → LtL a b → dig n a < dig n b
  | x :: a, y :: b, hl, ha, hb, h => by
    obtain ⟨x0, x1, x2⟩ := below_cons ha
    obtain ⟨y0, y1, y2⟩ := below_cons hb
    have hl' : a.length = b.length := by simpa using hl
    have hm : 0 ≤ n ^ b.length := pow_nn (by omega)
    show x * n ^ a.length + dig n a < y * n ^ b.length + dig n b
    rw [hl']
    rcases h with h | ⟨rfl, h⟩
    · have h1 := (dig_bound x2).2
      rw [hl'] at h1
      exact two_lt hm h h1 (dig_bound y2).1
    · have := dig_lt hl' x2 y2 h
      omega
theorem ltl_tri : ∀ {a b : List Int}, a.length = b.length → LtL a b ∨ a = b ∨ LtL b a
  | [], [], _ => .inr (.inl rfl)
  | x :: a, y :: b, hl => by
    have hl' : a.length = b.length := by simpa using hl
    by_cases h1 : x < y
    · exact .inl (.inl h1)
    · by_cases h2 : y < x
      · exact .inr (.inr (.inl h2))
      · obtain rfl : x = y := by omega
        rcases ltl_tri hl' with h | rfl | h
        · exact .inl (.inr ⟨rfl, h⟩)
        · exact .inr (.inl rfl)
        · exact .inr (.inr (.inr ⟨rfl, h⟩))
theorem dig_snoc (n t : Int) : ∀ r : List Int, dig n (r ++ [t]) = dig n r * n + t
  | [] => by simp [dig]
  | x :: r => by
    show x * n ^ (r ++ [t]).length + dig n (r ++ [t]) = (x * n ^ r.length + dig n r) * n + t
    rw [dig_snoc n t r, List.length_append, List.length_singleton, Int.pow_succ, Int.add_mul, Int.mul_assoc]
    omega
theorem dig_surj {n : Int} : ∀ (w : Nat) {k : Int}, 0 ≤ k → k < n ^ w → 0 ≤ n → ∃ r, r.length = w ∧ Below n r ∧ dig n r = k
  | 0, k, h0, h1, _ => ⟨[], rfl, (fun y hy => by cases hy), by
    have : n ^ 0 = 1 := Int.pow_zero n
    show (0 : Int) = k
    omega⟩
  | w + 1, k, h0, h1, hn => by
    have hp : 0 < n ^ w := by
      by_cases h : 0 < n ^ w
      · exact h
      · have : n ^ w = 0 := by
          have := pow_nn (k := w) hn
          omega
        rw [Int.pow_succ, this, Int.zero_mul] at h1
        omega
    obtain ⟨r, hl, hb, hd⟩ := dig_surj w (k := k % n ^ w) (Int.emod_nonneg _ (by omega)) (Int.emod_lt_of_pos _ hp) hn
    refine ⟨k / n ^ w :: r, by rw [List.length_cons, hl], fun y hy => ?_, ?_⟩
    · rcases List.mem_cons.mp hy with rfl | hy
      · refine ⟨Int.ediv_nonneg h0 (by omega), ?_⟩
        rw [Int.pow_succ, Int.mul_comm] at h1
        exact Int.ediv_lt_of_lt_mul hp h1
      · exact hb y hy
    · show k / n ^ w * n ^ r.length + dig n r = k
      rw [hl, hd, Int.mul_comm]
      exact Int.mul_ediv_add_emod k (n ^ w)
/-! ### fillings -/
def FillOk (n : Int) (us : List Int) (p : Int × List Int) : Prop := 0 ≤ p.1 ∧ p.1 < (us.length : Int) ∧ us[p.1.toNat]? = some ((p.2.length : Nat) : Int) ∧ Below n p.2
def fnum (n : Int) (us : List Int) (p : Int × List Int) : Int := cnt n (us.take p.1.toNat) + dig n p.2
theorem cnt_take_mono {n : Int} (h : 0 ≤ n) (us : List Int) {i j : Nat} (hij : i ≤ j) : cnt n (us.take i) ≤ cnt n (us.take j) := by
  have := cnt_take_le h (us.take j) i
  rw [List.take_take, Nat.min_eq_left hij] at this
  exact this
theorem fnum_step {n : Int} {us : List Int} {p : Int × List Int} (h : FillOk n us p) : cnt n (us.take p.1.toNat) ≤ fnum n us p ∧ fnum n us p < cnt n (us.take (p.1.toNat + 1)) := by
  obtain ⟨h0, h1, h2, h3⟩ := h
  obtain ⟨d0, d1⟩ := dig_bound h3
  have e := cnt_take (n := n) h2
  rw [Int.toNat_natCast] at e
  unfold fnum
  omega
theorem fnum_bound {n : Int} {us : List Int} {p : Int × List Int} (hn : 0 ≤ n) (h : FillOk n us p) : 0 ≤ fnum n us p ∧ fnum n us p < cnt n us := by
  obtain ⟨a, b⟩ := fnum_step h
  have h1 := cnt_nonneg hn (us.take p.1.toNat)
  have h2 := cnt_take_le hn us (p.1.toNat + 1)
  omega
theorem fnum_lt {n : Int} {us : List Int} {p q : Int × List Int} (hn : 0 ≤ n) (hp : FillOk n us p) (hq : FillOk n us q) (h : LtP p q) : fnum n us p < fnum n us q := by
  rcases h with h | ⟨e, h⟩
  · have a := (fnum_step hp).2
    have b := (fnum_step hq).1
    have c := cnt_take_mono hn us (i := p.1.toNat + 1) (j := q.1.toNat) (by have := hp.1; omega)
    omega
  · obtain ⟨_, _, p2, p3⟩ := hp
    obtain ⟨_, _, q2, q3⟩ := hq
    rw [e, q2] at p2
    have hl : p.2.length = q.2.length := by
      have := Option.some.inj p2
      omega
    have := dig_lt hl p3 q3 h
    unfold fnum
    rw [e]
    omega
theorem ltp_tri {n : Int} {us : List Int} {p q : Int × List Int} (hp : FillOk n us p) (hq : FillOk n us q) : LtP p q ∨ p = q ∨ LtP q p := by
  by_cases h1 : p.1 < q.1
  · exact .inl (.inl h1)
  · by_cases h2 : q.1 < p.1
    · exact .inr (.inr (.inl h2))
    · have e : p.1 = q.1 := by omega
      have p2 := hp.2.2.1
      rw [e, hq.2.2.1] at p2
      have hl : p.2.length = q.2.length := by
        have := Option.some.inj p2
        omega
      rcases ltl_tri hl with h | h | h
      · exact .inl (.inr ⟨e, h⟩)
      · exact .inr (.inl (Prod.ext e h))
      · exact .inr (.inr (.inr ⟨e.symm, h⟩))
theorem fnum_surj {n : Int} {us : List Int} (hn : 0 ≤ n) (hu : ∀ x ∈ us, 0 ≤ x) : ∀ (i : Nat) {k : Int}, i ≤ us.length → 0 ≤ k → k < cnt n (us.take i) → ∃ p, FillOk n us p ∧ fnum n us p = k
  | 0, k, _, h0, h1 => by
    rw [List.take_zero] at h1
    have : cnt n [] = 0 := rfl
    omega
  | i + 1, k, hi, h0, h1 => by
    by_cases hk : k < cnt n (us.take i)
    · exact fnum_surj hn hu i (by omega) h0 hk
    · have g : us[i]? = some us[i] := List.getElem?_eq_getElem (by omega)
      rw [cnt_take g] at h1
      obtain ⟨r, hl, hb, hd⟩ := dig_surj us[i].toNat (k := k - cnt n (us.take i)) (by omega) (by omega) hn
      have := hu _ (List.getElem_mem (show i < us.length by omega))
      refine ⟨((i : Int), r), ⟨by show (0 : Int) ≤ i; omega, by show (i : Int) < _; omega, ?_, hb⟩, ?_⟩
      · show us[((i : Int)).toNat]? = some ((r.length : Nat) : Int)
        rw [Int.toNat_natCast, g, hl]
        congr 1
        omega
      · show cnt n (us.take ((i : Int)).toNat) + dig n r = k
        rw [Int.toNat_natCast, hd]
        omega
/-! ### ways -/
def manyW (us : List Int) : List Int → Int
  | [] => 1
  | x :: ws => cnt x us * manyW us ws
def wnum (us : List Int) : List Int → List (Int × List Int) → Int
  | x :: ws, p :: wy => fnum x us p * manyW us ws + wnum us ws wy
  | _, _ => 0
theorem many_nn {us : List Int} : ∀ {ws : List Int}, (∀ x ∈ ws, 0 ≤ x) → 0 ≤ manyW us ws
  | [], _ => by show (0 : Int) ≤ 1; decide
  | x :: ws, h => Int.mul_nonneg (cnt_nonneg (h x List.mem_cons_self) us) (many_nn fun y hy => h y (List.mem_cons_of_mem _ hy))
theorem wayOk_cons {us ws : List Int} {x : Int} {p : Int × List Int} {wy : List (Int × List Int)} : WayOk (x :: ws) us (p :: wy) ↔ FillOk x us p ∧ WayOk ws us wy := by
  constructor
  · rintro ⟨hl, h⟩
    refine ⟨h 0 p x rfl rfl, by simpa using hl, fun i q y h1 h2 => h (i + 1) q y h1 h2⟩
  · rintro ⟨hp, hl, h⟩
    refine ⟨by simpa using hl, fun i q y h1 h2 => ?_⟩
    cases i with
    | zero =>
      cases h1
      cases h2
      exact hp
    | succ i => exact h i q y h1 h2
theorem wnum_bound {us : List Int} : ∀ {ws : List Int} {wy : List (Int × List Int)}, (∀ x ∈ ws, 0 ≤ x) → WayOk ws us wy → 0 ≤ wnum us ws wy ∧ wnum us ws wy < manyW us ws
  | [], wy, _, h => by
    have : wy = [] := List.length_eq_zero_iff.mp h.1
    subst this
    exact ⟨Int.le_refl 0, by show (0 : Int) < 1; decide⟩
  | x :: ws, [], _, h => by cases h.1
  | x :: ws, p :: wy, hw, h => by
    obtain ⟨hp, hr⟩ := wayOk_cons.mp h
    have hw' : ∀ y ∈ ws, 0 ≤ y := fun y hy => hw y (List.mem_cons_of_mem _ hy)
    obtain ⟨i0, i1⟩ := wnum_bound hw' hr
    obtain ⟨f0, f1⟩ := fnum_bound (hw x List.mem_cons_self) hp
    have hm := many_nn (us := us) hw'
    refine ⟨Int.add_nonneg (Int.mul_nonneg f0 hm) i0, ?_⟩
    have := two_lt hm f1 i1 (Int.le_refl 0)
    rw [Int.add_zero] at this
    exact this
theorem ltl_irr : ∀ {a : List Int}, LtL a a → False
  | x :: a, h => by
    rcases h with h | ⟨_, h⟩
    · omega
    · exact ltl_irr h
def LtW : List (Int × List Int) → List (Int × List Int) → Prop
  | p :: a, q :: b => LtP p q ∨ (p = q ∧ LtW a b)
  | _, _ => False
theorem wnum_lt {us : List Int} : ∀ {ws : List Int} {a b : List (Int × List Int)}, (∀ x ∈ ws, 0 ≤ x) → WayOk ws us a → WayOk ws us b → LtW a b → wnum us ws a < wnum us ws b
  | [], a, b, _, ha, hb, h => by
    have : a = [] := List.length_eq_zero_iff.mp ha.1
    subst this
    cases h
  | x :: ws, p :: a, q :: b, hw, ha, hb, h => by
    obtain ⟨hp, ha'⟩ := wayOk_cons.mp ha
    obtain ⟨hq, hb'⟩ := wayOk_cons.mp hb
    have hw' : ∀ y ∈ ws, 0 ≤ y := fun y hy => hw y (List.mem_cons_of_mem _ hy)
    show fnum x us p * manyW us ws + wnum us ws a < fnum x us q * manyW us ws + wnum us ws b
    rcases h with h | ⟨rfl, h⟩
    · exact two_lt (many_nn hw') (fnum_lt (hw x List.mem_cons_self) hp hq h) (wnum_bound hw' ha').2 (wnum_bound hw' hb').1
    · have := wnum_lt hw' ha' hb' h
      omega
theorem ltw_tri {us : List Int} : ∀ {ws : List Int} {a b : List (Int × List Int)}, WayOk ws us a → WayOk ws us b → LtW a b ∨ a = b ∨ LtW b a
  | [], a, b, ha, hb => by
    have h1 : a = [] := List.length_eq_zero_iff.mp ha.1
    have h2 : b = [] := List.length_eq_zero_iff.mp hb.1
    exact .inr (.inl (h1.trans h2.symm))
  | x :: ws, [], _, ha, _ => by cases ha.1
  | x :: ws, p :: a, [], _, hb => by cases hb.1
  | x :: ws, p :: a, q :: b, ha, hb => by
    obtain ⟨hp, ha'⟩ := wayOk_cons.mp ha
    obtain ⟨hq, hb'⟩ := wayOk_cons.mp hb
    rcases ltp_tri hp hq with h | rfl | h
    · exact .inl (.inl h)
    · rcases ltw_tri ha' hb' with h | rfl | h
      · exact .inl (.inr ⟨rfl, h⟩)
      · exact .inr (.inl rfl)
      · exact .inr (.inr (.inr ⟨rfl, h⟩))
    · exact .inr (.inr (.inl h))
/-- the lesser number is the lesser way -/
theorem ltw_of {us ws : List Int} {a b : List (Int × List Int)} (hw : ∀ x ∈ ws, 0 ≤ x) (ha : WayOk ws us a) (hb : WayOk ws us b) (h : wnum us ws a < wnum us ws b) : LtW a b := by
  rcases ltw_tri ha hb with q | rfl | q
  · exact q
  · omega
  · have := wnum_lt hw hb ha q
    omega
theorem wnum_inj {us ws : List Int} {a b : List (Int × List Int)} (hw : ∀ x ∈ ws, 0 ≤ x) (ha : WayOk ws us a) (hb : WayOk ws us b) (h : wnum us ws a = wnum us ws b) : a = b := by
  rcases ltw_tri ha hb with q | q | q
  · have := wnum_lt hw ha hb q
    omega
  · exact q
  · have := wnum_lt hw hb ha q
    omega
theorem wnum_surj {us : List Int} (hu : ∀ x ∈ us, 0 ≤ x) : ∀ {ws : List Int} {k : Int}, (∀ x ∈ ws, 0 ≤ x) → 0 ≤ k → k < manyW us ws → ∃ wy, WayOk ws us wy ∧ wnum us ws wy = k
  | [], k, _, h0, h1 => by
    refine ⟨[], ⟨rfl, fun i p x h => by cases h⟩, ?_⟩
    have h1 : k < 1 := h1
    show (0 : Int) = k
    omega
  | x :: ws, k, hw, h0, h1 => by
    have hw' : ∀ y ∈ ws, 0 ≤ y := fun y hy => hw y (List.mem_cons_of_mem _ hy)
    have h1 : k < cnt x us * manyW us ws := h1
    have hm : 0 < manyW us ws := by
      have := many_nn (us := us) hw'
      by_cases h : 0 < manyW us ws
      · exact h
      · have e : manyW us ws = 0 := by omega
        rw [e, Int.mul_zero] at h1
        omega
    obtain ⟨wy, ok, e⟩ := wnum_surj hu (ws := ws) (k := k % manyW us ws) hw' (Int.emod_nonneg _ (by omega)) (Int.emod_lt_of_pos _ hm)
    obtain ⟨p, hp, ep⟩ := fnum_surj (hw x List.mem_cons_self) hu us.length (k := k / manyW us ws) (Nat.le_refl _) (Int.ediv_nonneg h0 (by omega)) (by rw [List.take_length]; exact Int.ediv_lt_of_lt_mul hm h1)
    refine ⟨p :: wy, wayOk_cons.mpr ⟨hp, ok⟩, ?_⟩
    show fnum x us p * manyW us ws + wnum us ws wy = k
    rw [e, ep, Int.mul_comm]
    exact Int.mul_ediv_add_emod k (manyW us ws)
theorem many_app (us : List Int) : ∀ a b : List Int, manyW us (a ++ b) = manyW us a * manyW us b
  | [], b => by
    show manyW us b = 1 * manyW us b
    rw [Int.one_mul]
  | x :: a, b => by
    show cnt x us * manyW us (a ++ b) = cnt x us * manyW us a * manyW us b
    rw [many_app us a b, Int.mul_assoc]
theorem wnum_app {us : List Int} : ∀ {a b : List Int} {v w : List (Int × List Int)}, v.length = a.length → wnum us (a ++ b) (v ++ w) = wnum us a v * manyW us b + wnum us b w
  | [], b, [], w, _ => by
    show wnum us b w = 0 * manyW us b + wnum us b w
    omega
  | x :: a, b, p :: v, w, h => by
    show fnum x us p * manyW us (a ++ b) + wnum us (a ++ b) (v ++ w) = (fnum x us p * manyW us a + wnum us a v) * manyW us b + wnum us b w
    rw [wnum_app (by simpa using h), many_app, Int.add_mul, Int.mul_assoc]
    omega
theorem wayOk_app {us : List Int} : ∀ {a b : List Int} {v w : List (Int × List Int)}, WayOk a us v → WayOk b us w → WayOk (a ++ b) us (v ++ w)
  | [], b, v, w, h, k => by
    have : v = [] := List.length_eq_zero_iff.mp h.1
    subst this
    exact k
  | x :: a, b, [], w, h, k => by cases h.1
  | x :: a, b, p :: v, w, h, k => by
    obtain ⟨h1, h2⟩ := wayOk_cons.mp h
    exact wayOk_cons.mpr ⟨h1, wayOk_app h2 k⟩
/-! ### < and == of ways as the model has them -/
theorem alike_pairs : ∀ a b : List (Int × List Int), PySem.W.alikeAll (a.map dPair) (b.map dPair) = true
  | [], b => by simp [PySem.W.alikeAll]
  | x :: a, [] => by simp [PySem.W.alikeAll]
  | x :: a, y :: b => by
    have ih := alike_pairs a b
    have h := alike_pair x y
    simp only [List.map_cons, PySem.W.alikeAll, h, Bool.true_and]
    exact ih
theorem alike_way (a b : List (Int × List Int)) : PySem.W.alike (dWay a) (dWay b) = true := by
  have h := alike_pairs a b
  simp only [dWay, PySem.W.alike, h]
theorem eqvAll_ints : ∀ a b : List Int, PyData.eqvAll (a.map PyData.int) (b.map PyData.int) = decide (a = b)
  | [], [] => by simp [PyData.eqvAll]
  | [], y :: b => by simp [PyData.eqvAll]
  | x :: a, [] => by simp [PyData.eqvAll]
  | x :: a, y :: b => by
    rw [List.map_cons, List.map_cons, PySem.W.eqv_all_cons, eqvAll_ints a b]
    by_cases e : x = y
    · subst e
      rw [eqv_int, Bool.true_and]
      by_cases h : a = b
      · rw [decide_eq_true h, decide_eq_true (by rw [h])]
      · rw [decide_eq_false h, decide_eq_false fun q => h (List.cons.inj q).2]
    · rw [eqv_ints_ne e, Bool.false_and, decide_eq_false fun q => e (List.cons.inj q).1]
theorem eqv_pair (p q : Int × List Int) : PyData.eqv (dPair p) (dPair q) = decide (p = q) := by
  unfold dPair
  simp only [PyData.eqv]
  rw [PySem.W.eqv_all_cons, PySem.W.eqv_all_cons]
  simp only [PyData.eqv, PyData.eqvAll, Bool.and_true]
  rw [eqvAll_ints]
  by_cases h1 : p.1 = q.1
  · by_cases h2 : p.2 = q.2
    · rw [decide_eq_true h2, decide_eq_true (Prod.ext h1 h2), h1]
      simp
    · rw [decide_eq_false h2, decide_eq_false fun e => h2 (by rw [e]), Bool.and_false]
  · rw [decide_eq_false (show ¬ p = q from fun e => h1 (by rw [e]))]
    simp [h1]
theorem eqv_pairs : ∀ a b : List (Int × List Int), PyData.eqvAll (a.map dPair) (b.map dPair) = decide (a = b)
  | [], [] => by simp [PyData.eqvAll]
  | [], y :: b => by simp [PyData.eqvAll]
  | x :: a, [] => by simp [PyData.eqvAll]
  | x :: a, y :: b => by
    rw [List.map_cons, List.map_cons, PySem.W.eqv_all_cons, eqv_pairs a b, eqv_pair]
    by_cases e : x = y
    · subst e
      rw [decide_eq_true rfl, Bool.true_and]
      by_cases h : a = b
      · rw [decide_eq_true h, decide_eq_true (by rw [h])]
      · rw [decide_eq_false h, decide_eq_false fun q => h (List.cons.inj q).2]
    · rw [decide_eq_false e, Bool.false_and, decide_eq_false fun q => e (List.cons.inj q).1]
theorem eqv_way (a b : List (Int × List Int)) : PyData.eqv (dWay a) (dWay b) = decide (a = b) := by
  have h := eqv_pairs a b
  simp only [dWay, PyData.eqv]
  exact h
theorem ltw_data0 : ∀ {a b : List (Int × List Int)}, LtW a b → PyProof.Rows.lexLt PyProof.Rows.itemOrd (PySem.W.keyToksAll (a.map dPair)) (PySem.W.keyToksAll (b.map dPair)) = true
  | x :: a, y :: b, h => by
    rw [List.map_cons, List.map_cons]
    by_cases e : x = y
    · subst e
      rcases h with h | ⟨_, h⟩
      · exfalso
        rcases h with h | ⟨_, h⟩
        · omega
        · exact ltl_irr h
      · rw [PySem.W.dataLt_all_yes (alike_pair x x) (by rw [eqv_pair]; exact decide_eq_true rfl)]
        exact ltw_data0 h
    · rcases h with h | ⟨h, _⟩
      · rw [PySem.W.dataLt_all_no (alike_pair x y) (by rw [eqv_pair]; exact decide_eq_false e)]
        exact ltp_data h
      · exact absurd h e
theorem ltw_data {a b : List (Int × List Int)} (h : LtW a b) : PySem.W.dataLt (dWay a) (dWay b) = true := by
  unfold dWay
  rw [PySem.W.dataLt_tuple]
  exact ltw_data0 h
theorem ltl_no : ∀ {a b : List Int}, a = b ∨ LtL b a → PyProof.Rows.lexLt PyProof.Rows.itemOrd (PySem.W.keyToksAll (a.map PyData.int)) (PySem.W.keyToksAll (b.map PyData.int)) = false
  | [], [], _ => by
    simp [PySem.W.keyToksAll, PyProof.Rows.lexLt]
    decide
  | [], _ :: _, h => by
    rcases h with h | h
    · cases h
    · cases h
  | _ :: _, [], h => by
    rcases h with h | h
    · cases h
    · cases h
  | x :: xs, y :: ys, h => by
    rw [List.map_cons, List.map_cons]
    by_cases e : x = y
    · subst e
      rw [PySem.W.dataLt_all_yes (by simp [PySem.W.alike]) (eqv_int x)]
      refine ltl_no ?_
      rcases h with h | h | ⟨_, h⟩
      · exact .inl (List.cons.inj h).2
      · omega
      · exact .inr h
    · rw [PySem.W.dataLt_all_no (by simp [PySem.W.alike]) (eqv_ints_ne e), PySem.W.dataLt_int]
      refine decide_eq_false ?_
      rcases h with h | h | ⟨h, _⟩
      · exact absurd (List.cons.inj h).1 e
      · omega
      · exact absurd h.symm e
theorem ltp_no {p q : Int × List Int} (h : LtP q p) : PySem.W.dataLt (dPair p) (dPair q) = false := by
  unfold dPair
  rw [PySem.W.dataLt_tuple]
  by_cases e : p.1 = q.1
  · rcases h with h | ⟨_, h⟩
    · omega
    · have ne : ¬ p.2 = q.2 := fun z => ltl_irr (a := q.2) (by rw [z] at h; exact h)
      rw [e, PySem.W.dataLt_all_yes (by simp [PySem.W.alike]) (eqv_int q.1)]
      rw [PySem.W.dataLt_all_no (by simp only [PySem.W.alike]; exact alike_ints _ _) (by simp only [PyData.eqv]; rw [eqvAll_ints]; exact decide_eq_false ne), PySem.W.dataLt_tuple]
      exact ltl_no (.inr h)
  · rw [PySem.W.dataLt_all_no (by simp [PySem.W.alike]) (eqv_ints_ne e), PySem.W.dataLt_int]
    rcases h with h | ⟨h, _⟩
    · exact decide_eq_false (by omega)
    · exact absurd h.symm e
theorem ltw_no0 : ∀ {a b : List (Int × List Int)}, a = b ∨ LtW b a → PyProof.Rows.lexLt PyProof.Rows.itemOrd (PySem.W.keyToksAll (a.map dPair)) (PySem.W.keyToksAll (b.map dPair)) = false
  | [], [], _ => by
    simp [PySem.W.keyToksAll, PyProof.Rows.lexLt]
    decide
  | [], _ :: _, h => by
    rcases h with h | h
    · cases h
    · cases h
  | _ :: _, [], h => by
    rcases h with h | h
    · cases h
    · cases h
  | x :: a, y :: b, h => by
    rw [List.map_cons, List.map_cons]
    by_cases e : x = y
    · subst e
      rw [PySem.W.dataLt_all_yes (alike_pair x x) (by rw [eqv_pair]; exact decide_eq_true rfl)]
      refine ltw_no0 ?_
      rcases h with h | h | ⟨_, h⟩
      · exact .inl (List.cons.inj h).2
      · exfalso
        rcases h with h | ⟨_, h⟩
        · omega
        · exact ltl_irr h
      · exact .inr h
    · rw [PySem.W.dataLt_all_no (alike_pair x y) (by rw [eqv_pair]; exact decide_eq_false e)]
      rcases h with h | h | ⟨h, _⟩
      · exact absurd (List.cons.inj h).1 e
      · exact ltp_no h
      · exact absurd h.symm e
/-- < of two ways between the same crates is < of their numbers -/
theorem lt_way {us ws : List Int} {a b : List (Int × List Int)} (hw : ∀ x ∈ ws, 0 ≤ x) (ha : WayOk ws us a) (hb : WayOk ws us b) : PySem.W.dataLt (dWay a) (dWay b) = decide (wnum us ws a < wnum us ws b) := by
  by_cases h : wnum us ws a < wnum us ws b
  · rw [decide_eq_true h]
    exact ltw_data (ltw_of hw ha hb h)
  · rw [decide_eq_false h]
    unfold dWay
    rw [PySem.W.dataLt_tuple]
    refine ltw_no0 ?_
    rcases ltw_tri ha hb with q | q | q
    · exact absurd (wnum_lt hw ha hb q) h
    · exact .inl q
    · exact .inr q
/-! ### how great they are -/
theorem pow12 {n : Int} {k : Nat} (h0 : 0 ≤ n) (h1 : n ≤ 12) (hk : k ≤ 12) : n ^ k ≤ 8916100448256 := by
  obtain ⟨m, rfl⟩ := Int.eq_ofNat_of_zero_le h0
  have a : m ^ k ≤ 12 ^ k := Nat.pow_le_pow_left (by omega) k
  have b : 12 ^ k ≤ 12 ^ 12 := Nat.pow_le_pow_right (by decide) hk
  have c : (12 : Nat) ^ 12 = 8916100448256 := by decide
  have d : ((m : Int)) ^ k = ((m ^ k : Nat) : Int) := (Int.natCast_pow m k).symm
  rw [d]
  omega
theorem cnt_le {n : Int} (h0 : 0 ≤ n) (h1 : n ≤ 12) : ∀ {us : List Int}, (∀ u ∈ us, 0 ≤ u ∧ u ≤ 12) → cnt n us ≤ (us.length : Int) * 8916100448256
  | [], _ => by show (0 : Int) ≤ 0 * _; omega
  | u :: us, h => by
    have ih := cnt_le h0 h1 (us := us) fun y hy => h y (List.mem_cons_of_mem _ hy)
    have hu := h u List.mem_cons_self
    have hp := pow12 (n := n) (k := u.toNat) h0 h1 (by omega)
    have e : cnt n (u :: us) = n ^ u.toNat + cnt n us := by
      show (n ^ u.toNat :: us.map fun x => n ^ x.toNat).sum = _
      rw [List.sum_cons]
      rfl
    rw [e, List.length_cons]
    omega
/-- a factor that op_mul takes -/
theorem cnt_small {n : Int} {us : List Int} (h0 : 0 ≤ n) (h1 : n ≤ 12) (hu : ∀ u ∈ us, 0 ≤ u ∧ u ≤ 12) (hl : us.length ≤ 1000) : -2 ^ 64 < cnt n us ∧ cnt n us < 2 ^ 64 := by
  have a := cnt_nonneg h0 us
  have b := cnt_le h0 h1 hu
  omega
theorem many_take {us ws : List Int} {i : Nat} {x : Int} (h : ws[i]? = some x) : manyW us (ws.take (i + 1)) = manyW us (ws.take i) * cnt x us := by
  rw [List.take_add_one, h]
  show manyW us (ws.take i ++ [x]) = _
  rw [many_app]
  show manyW us (ws.take i) * (cnt x us * 1) = _
  rw [Int.mul_one]
theorem many_le {us : List Int} (hu : ∀ u ∈ us, 0 ≤ u ∧ u ≤ 12) (hl : us.length ≤ 1000) : ∀ {ws : List Int}, (∀ x ∈ ws, 0 ≤ x ∧ x ≤ 12) → manyW us ws ≤ 2 ^ (54 * ws.length)
  | [], _ => by show (1 : Int) ≤ 2 ^ 0; decide
  | x :: ws, h => by
    have hx := h x List.mem_cons_self
    have hws : ∀ y ∈ ws, 0 ≤ y ∧ y ≤ 12 := fun y hy => h y (List.mem_cons_of_mem _ hy)
    have ih := many_le hu hl hws
    have a := cnt_nonneg hx.1 us
    have b := cnt_le hx.1 hx.2 hu
    have c : cnt x us ≤ 2 ^ 54 := by
      have : (2 : Int) ^ 54 = 18014398509481984 := by decide
      omega
    have e : 54 * (x :: ws).length = 54 * ws.length + 54 := by rw [List.length_cons]; omega
    show cnt x us * manyW us ws ≤ 2 ^ (54 * (x :: ws).length)
    rw [e, Int.pow_add, Int.mul_comm]
    exact Int.mul_le_mul ih c a (pow_nn (by decide))
theorem many_log {us ws : List Int} (hu : ∀ u ∈ us, 0 ≤ u ∧ u ≤ 12) (hl : us.length ≤ 1000) (hw : ∀ x ∈ ws, 0 ≤ x ∧ x ≤ 12) (hk : ws.length ≤ 120) {m : Int} (h0 : 0 ≤ m) (h1 : m ≤ manyW us ws) : m.natAbs.log2 < 7000 := by
  refine Nat.lt_of_lt_of_le (PySem.Flt.log2_lt_of (by decide : 0 < 6500) ?_) (by decide)
  have a := many_le hu hl hw
  have b : (2 : Int) ^ (54 * ws.length) = ((2 ^ (54 * ws.length) : Nat) : Int) := (Int.natCast_pow 2 _).symm
  have c : 2 ^ (54 * ws.length) < 2 ^ 6500 := Nat.pow_lt_pow_right (by decide) (by omega)
  have d : m.natAbs ≤ 2 ^ (54 * ws.length) := by omega
  exact Nat.lt_of_le_of_lt d c
/-! ### the numbers from 0 on, the idle way -/
def iota (x : Int) : List Int := (List.range x.toNat).map fun (i : Nat) => (i : Int)
theorem iota_len (x : Int) : (iota x).length = x.toNat := by unfold iota; rw [List.length_map, List.length_range]
theorem iota_get {x : Int} {i : Nat} (h : i < x.toNat) : (iota x)[i]? = some (i : Int) := by
  unfold iota
  rw [List.getElem?_map, List.getElem?_range h]
  rfl
theorem rg_iota (x : Int) : rgV 0 x = (iota x).map V.int := by
  unfold rgV iota
  rw [Int.sub_zero, List.map_map]
  refine List.map_congr_left fun i _ => ?_
  show V.int (0 + (i : Int)) = V.int (i : Int)
  rw [Int.zero_add]
theorem iota_below (x : Int) : Below x (iota x) := fun y hy => by
  obtain ⟨i, hi, rfl⟩ := List.mem_map.mp hy
  have := List.mem_range.mp hi
  omega
def plainF (ws : List Int) (i : Nat) : Int × List Int := ((i : Int), iota (ws.getD i 0))
def idleW (ws : List Int) : List (Int × List Int) := (List.range ws.length).map (plainF ws)
theorem idle_len (ws : List Int) : (idleW ws).length = ws.length := by unfold idleW; rw [List.length_map, List.length_range]
theorem plainF_get {ws : List Int} {i : Nat} {x : Int} (h : ws[i]? = some x) : plainF ws i = ((i : Int), iota x) := by
  unfold plainF
  rw [List.getD_eq_getElem?_getD, h]
  rfl
theorem idle_get {ws : List Int} {i : Nat} {x : Int} (h : ws[i]? = some x) : (idleW ws)[i]? = some ((i : Int), iota x) := by
  unfold idleW
  rw [List.getElem?_map, List.getElem?_range (List.getElem?_eq_some_iff.mp h).1]
  show some (plainF ws i) = _
  rw [plainF_get h]
theorem idle_take (ws : List Int) {i : Nat} (h : i < ws.length) : (idleW ws).take (i + 1) = (idleW ws).take i ++ [plainF ws i] := by
  have g : ws[i]? = some ws[i] := List.getElem?_eq_getElem h
  rw [List.take_add_one, idle_get g, ← plainF_get g]
  rfl
theorem idle_ok {ws : List Int} (hw : ∀ x ∈ ws, 0 ≤ x) : WayOk ws ws (idleW ws) := by
  refine ⟨idle_len ws, fun i p x h1 h2 => ?_⟩
  rw [idle_get h2] at h1
  cases h1
  have h0 := hw x (List.mem_of_getElem? h2)
  have hi := (List.getElem?_eq_some_iff.mp h2).1
  refine ⟨by show (0 : Int) ≤ (i : Int); omega, by show (i : Int) < _; omega, ?_, iota_below x⟩
  show ws[((i : Int)).toNat]? = some (((iota x).length : Nat) : Int)
  rw [Int.toNat_natCast, h2, iota_len]
  congr 1
  omega
theorem Same.of_lst {H H' : Hp} {D : Addr} {xs : List V} (s : Same H H') (f : H D = none) : Same H (upd H' D (.lst xs)) := fun b o e => by
  rw [upd_ne (ne_of_none e f)]
  exact s b o e
theorem iteEq {c A B : Prop} [Decidable c] (hc : c) (h : A) : if decide c = true then A else B := by
  rw [decide_eq_true hc]
  exact iteT h
/-! ### what there is where a way is -/
theorem way_able {ws us : List Int} {wy : List (Int × List Int)} (h : WayOk ws us wy) (n : ∃ x ∈ ws, ∀ u ∈ us, ¬ (0 < x ∨ u = 0)) : False := by
  obtain ⟨x, hx, hn⟩ := n
  obtain ⟨i, hi, rfl⟩ := List.getElem_of_mem hx
  have hi2 : i < wy.length := by rw [h.1]; exact hi
  obtain ⟨h0, h1, h2, h3⟩ := h.2 i _ _ (List.getElem?_eq_getElem hi2) (List.getElem?_eq_getElem hi)
  have q := hn _ (List.mem_of_getElem? h2)
  cases e : wy[i].2 with
  | nil =>
    rw [e] at q
    exact q (.inr rfl)
  | cons y r =>
    have := h3 y (by rw [e]; exact List.mem_cons_self)
    exact q (.inl (by omega))
theorem depth_way (wy : List (Int × List Int)) : PyData.depth (dWay wy) ≤ 64 := by
  have h := depth_pairs wy
  rw [show PyData.depth (dWay wy) = PyData.depthAll (wy.map dPair) + 1 by simp only [dWay, PyData.depth]]
  omega
theorem way_dp {K : PySem.W.Frag} {H : Hp} {a : Addr} {wy : List (Int × List Int)} (h : Way H a wy) : Dp K H (.ref a) (dWay wy) := (dq_way (N := fun _ => False) h).dp
theorem way_none (wy : List (Int × List Int)) : dWay wy ≠ .none := fun e => by cases e
/-! ### promises of the counting -/
def spManyW : Sp := fun vs H Q _ => ∃ (t1 t2 : Addr) (ws us : List Int), vs = [.ref t1, .ref t2] ∧ H t1 = some (.tup (ws.map V.int)) ∧ H t2 = some (.tup (us.map V.int)) ∧ (∀ x ∈ ws, 0 ≤ x ∧ x ≤ 12) ∧ (∀ x ∈ us, 0 ≤ x ∧ x ≤ 12) ∧ ws.length ≤ 120 ∧ us.length ≤ 120 ∧ ∀ H', Same H H' → Q (.int (manyW us ws)) H'
def spNumOf : Sp := fun vs H Q _ => ∃ (t1 t2 tw : Addr) (ws us : List Int) (wy : List (Int × List Int)), vs = [.ref t1, .ref t2, .ref tw] ∧ H t1 = some (.tup (ws.map V.int)) ∧ H t2 = some (.tup (us.map V.int)) ∧ (∀ x ∈ ws, 0 ≤ x ∧ x ≤ 12) ∧ (∀ x ∈ us, 0 ≤ x ∧ x ≤ 12) ∧ ws.length ≤ 120 ∧ us.length ≤ 120 ∧ Way H tw wy ∧ WayOk ws us wy ∧ ∀ H', Same H H' → Q (.int (wnum us ws wy)) H'
def spWayAt : Sp := fun vs H Q _ => ∃ (t1 t2 : Addr) (ws us : List Int) (n : Int), vs = [.ref t1, .ref t2, .int n] ∧ H t1 = some (.tup (ws.map V.int)) ∧ H t2 = some (.tup (us.map V.int)) ∧ (∀ x ∈ ws, 0 ≤ x ∧ x ≤ 12) ∧ (∀ x ∈ us, 0 ≤ x ∧ x ≤ 12) ∧ ws.length ≤ 120 ∧ us.length ≤ 120 ∧ 0 ≤ n ∧ n < manyW us ws ∧ ∀ a wy H', Same H H' → Way H' a wy → WayOk ws us wy → wnum us ws wy = n → Q (.ref a) H'
/-! ### ways side by side, a tray more -/
theorem pairs_app {H : Hp} {xs ys : List V} {a b : List (Int × List Int)} (h : Pairs H xs a) (k : Pairs H ys b) : Pairs H (xs ++ ys) (a ++ b) := by
  refine ⟨by rw [List.length_append, List.length_append, h.1, k.1], fun i x p h1 h2 => ?_⟩
  by_cases hi : i < xs.length
  · rw [List.getElem?_append_left hi] at h1
    rw [List.getElem?_append_left (by rw [← h.1]; exact hi)] at h2
    exact h.2 i x p h1 h2
  · rw [List.getElem?_append_right (by omega)] at h1
    rw [List.getElem?_append_right (by rw [← h.1]; omega), ← h.1] at h2
    exact k.2 _ x p h1 h2
theorem wayOk_more {ws us : List Int} {wy : List (Int × List Int)} (h : WayOk ws us wy) : WayOk ws (us ++ [0]) wy := by
  refine ⟨h.1, fun i p x h1 h2 => ?_⟩
  obtain ⟨a, b, c, d⟩ := h.2 i p x h1 h2
  refine ⟨a, by rw [List.length_append]; show p.1 < ((us.length + 1 : Nat) : Int); omega, ?_, d⟩
  rw [List.getElem?_append_left (by omega)]
  exact c
theorem more_ok {us : List Int} (hu : ∀ x ∈ us, 0 ≤ x ∧ x ≤ 12) : ∀ x ∈ us ++ [0], 0 ≤ x ∧ x ≤ 12 := fun x hx => by
  rcases List.mem_append.mp hx with hx | hx
  · exact hu x hx
  · rw [List.mem_singleton.mp hx]
    exact ⟨by decide, by decide⟩
theorem no_able {ws us : List Int} (n : ∃ x ∈ ws, ∀ u ∈ us ++ [(0 : Int)], ¬ (0 < x ∨ u = 0)) : False := by
  obtain ⟨x, _, hx⟩ := n
  exact hx 0 (by simp) (.inr rfl)
theorem lg45 : ((10 : Int) ^ (45 : Int).toNat).natAbs.log2 < 9000 := Nat.lt_of_lt_of_le (PySem.Flt.log2_lt_of (by decide : 0 < 200) (by decide +kernel)) (by decide)
theorem p45 : (0 : Int) < 10 ^ (45 : Int).toNat := by decide +kernel
theorem lgr45 {r : Int} (h0 : 0 ≤ r) (h1 : r < 10 ^ (45 : Int).toNat) : r.natAbs.log2 < 200 := PySem.Flt.log2_lt_of (by decide : 0 < 200) (by
  have a : (10 : Int) ^ (45 : Int).toNat < ((2 ^ 200 : Nat) : Int) := by decide +kernel
  omega)
def spIdle : Sp := fun vs H Q _ => ∃ (t : Addr) (ws : List Int), vs = [.ref t] ∧ H t = some (.tup (ws.map V.int)) ∧ ws.length ≤ 60 ∧ (∀ x ∈ ws, 0 ≤ x ∧ x ≤ 12) ∧ ∀ a H', Same H H' → H a = none → Way H' a (idleW ws) → Q (.ref a) H'
/-! ### one way and then another -/
def pick (r : List Int) (y : Int) : Int := r.getD y.toNat 0
def stepW (w : List (Int × List Int)) (p : Int × List Int) : Int × List Int :=
  match w[p.1.toNat]? with
  | some q => (q.1, q.2.map (pick p.2))
  | none => (0, [])
def thenW (v w : List (Int × List Int)) : List (Int × List Int) := v.map (stepW w)
theorem step_some {w : List (Int × List Int)} {p q : Int × List Int} (h : w[p.1.toNat]? = some q) : stepW w p = (q.1, q.2.map (pick p.2)) := by
  unfold stepW
  rw [h]
theorem pick_in {r : List Int} {y : Int} (h0 : 0 ≤ y) (h1 : y < (r.length : Int)) : r[y.toNat]? = some (pick r y) := by
  unfold pick
  rw [List.getD_eq_getElem?_getD, List.getElem?_eq_getElem (by omega)]
  rfl
/-- the pair of a way where a filling of its first crate leads -/
theorem way_at {us xs : List Int} {w : List (Int × List Int)} {x : Int} {p : Int × List Int} (hw : WayOk us xs w) (hp : FillOk x us p) : ∃ q, w[p.1.toNat]? = some q ∧ FillOk ((p.2.length : Nat) : Int) xs q := by
  obtain ⟨h0, h1, h2, h3⟩ := hp
  have hl : p.1.toNat < w.length := by rw [hw.1]; omega
  exact ⟨w[p.1.toNat], List.getElem?_eq_getElem hl, hw.2 _ _ _ (List.getElem?_eq_getElem hl) h2⟩
theorem step_ok {us xs : List Int} {w : List (Int × List Int)} {x : Int} {p : Int × List Int} (hw : WayOk us xs w) (hp : FillOk x us p) : FillOk x xs (stepW w p) := by
  obtain ⟨q, hq, q0, q1, q2, q3⟩ := way_at hw hp
  rw [step_some hq]
  refine ⟨q0, q1, by rw [List.length_map]; exact q2, fun y hy => ?_⟩
  obtain ⟨z, hz, rfl⟩ := List.mem_map.mp hy
  obtain ⟨z0, z1⟩ := q3 z hz
  exact hp.2.2.2 _ (List.mem_of_getElem? (pick_in z0 z1))
theorem then_len (v w : List (Int × List Int)) : (thenW v w).length = v.length := List.length_map ..
theorem then_get {v w : List (Int × List Int)} {i : Nat} {p : Int × List Int} (h : v[i]? = some p) : (thenW v w)[i]? = some (stepW w p) := by
  unfold thenW
  rw [List.getElem?_map, h]
  rfl
theorem then_ok {ws us xs : List Int} {v w : List (Int × List Int)} (hv : WayOk ws us v) (hw : WayOk us xs w) : WayOk ws xs (thenW v w) := by
  refine ⟨by rw [then_len, hv.1], fun i p x h1 h2 => ?_⟩
  have hi : i < v.length := by rw [hv.1]; exact (List.getElem?_eq_some_iff.mp h2).1
  have g : v[i]? = some v[i] := List.getElem?_eq_getElem hi
  rw [then_get g] at h1
  cases h1
  exact step_ok hw (hv.2 i _ x g h2)
theorem pick_map {f : Int → Int} {r : List Int} {y : Int} (h0 : 0 ≤ y) (h1 : y < (r.length : Int)) : pick (r.map f) y = f (pick r y) := by
  have a := pick_in h0 h1
  have b : (r.map f)[y.toNat]? = some (pick (r.map f) y) := pick_in h0 (by rw [List.length_map]; exact h1)
  rw [List.getElem?_map, a] at b
  exact (Option.some.inj b).symm
theorem step_step {us xs ys : List Int} {w z : List (Int × List Int)} {x : Int} {p : Int × List Int} (hw : WayOk us xs w) (hz : WayOk xs ys z) (hp : FillOk x us p) : stepW z (stepW w p) = stepW (thenW w z) p := by
  obtain ⟨q, hq, fq⟩ := way_at hw hp
  obtain ⟨r, hr, fr⟩ := way_at hz fq
  rw [step_some hq, step_some (w := thenW w z) (then_get hq), step_some (w := z) (p := (q.1, q.2.map (pick p.2))) hr, step_some hr]
  refine Prod.ext rfl ?_
  show r.2.map (pick (q.2.map (pick p.2))) = (r.2.map (pick q.2)).map (pick p.2)
  rw [List.map_map]
  refine List.map_congr_left fun y hy => ?_
  obtain ⟨y0, y1⟩ := fr.2.2.2 y hy
  exact pick_map y0 y1
theorem then_assoc {ws us xs ys : List Int} {v w z : List (Int × List Int)} (hv : WayOk ws us v) (hw : WayOk us xs w) (hz : WayOk xs ys z) : thenW (thenW v w) z = thenW v (thenW w z) := by
  unfold thenW
  rw [List.map_map]
  refine List.map_congr_left fun p hp => ?_
  obtain ⟨i, hi, rfl⟩ := List.getElem_of_mem hp
  have hi2 : i < ws.length := by rw [← hv.1]; exact hi
  exact step_step hw hz (hv.2 i _ _ (List.getElem?_eq_getElem hi) (List.getElem?_eq_getElem hi2))
theorem pick_iota {x y : Int} (h0 : 0 ≤ y) (h1 : y < x) : pick (iota x) y = y := by
  have a : (iota x)[y.toNat]? = some (pick (iota x) y) := pick_in h0 (by rw [iota_len]; omega)
  rw [iota_get (by omega)] at a
  have := Option.some.inj a
  omega
theorem map_pick_iota (r : List Int) : (iota ((r.length : Nat) : Int)).map (pick r) = r := by
  refine List.ext_getElem? fun i => ?_
  by_cases hi : i < r.length
  · rw [List.getElem?_map, iota_get (by omega)]
    have := pick_in (r := r) (y := (i : Int)) (by omega) (by omega)
    rw [Int.toNat_natCast] at this
    rw [this]
    rfl
  · rw [List.getElem?_eq_none (by rw [List.length_map, iota_len]; omega), List.getElem?_eq_none (by omega)]
theorem idle_then {ws us : List Int} {v : List (Int × List Int)} (hv : WayOk ws us v) : thenW (idleW ws) v = v := by
  refine List.ext_getElem? fun i => ?_
  by_cases hi : i < ws.length
  · have g : ws[i]? = some ws[i] := List.getElem?_eq_getElem hi
    have hiv : i < v.length := by rw [hv.1]; exact hi
    have gv : v[i]? = some v[i] := List.getElem?_eq_getElem hiv
    rw [then_get (idle_get g), step_some (w := v) (p := ((i : Int), iota ws[i])) (q := v[i]) (by show v[((i : Int)).toNat]? = _; rw [Int.toNat_natCast]; exact gv), gv]
    congr 1
    refine Prod.ext rfl ?_
    show v[i].2.map (pick (iota ws[i])) = v[i].2
    refine (List.map_congr_left fun y hy => ?_).trans (List.map_id _)
    obtain ⟨y0, y1⟩ := (hv.2 i _ _ gv g).2.2.2 y hy
    exact pick_iota y0 y1
  · rw [List.getElem?_eq_none (by rw [then_len, idle_len]; omega), List.getElem?_eq_none (by rw [hv.1]; omega)]
theorem then_idle {ws us : List Int} {v : List (Int × List Int)} (hv : WayOk ws us v) : thenW v (idleW us) = v := by
  unfold thenW
  refine (List.map_congr_left fun p hp => ?_).trans (List.map_id _)
  obtain ⟨i, hi, rfl⟩ := List.getElem_of_mem hp
  have hi2 : i < ws.length := by rw [← hv.1]; exact hi
  obtain ⟨h0, h1, h2, h3⟩ := hv.2 i _ _ (List.getElem?_eq_getElem hi) (List.getElem?_eq_getElem hi2)
  rw [step_some (idle_get h2)]
  refine Prod.ext ?_ (map_pick_iota _)
  show ((v[i].1.toNat : Nat) : Int) = v[i].1
  omega
/-! ### promises of the ways -/
def spAfter : Sp := fun vs H Q _ => ∃ (a b : Addr) (ws us xs : List Int) (v w : List (Int × List Int)), vs = [.ref a, .ref b] ∧ Way H a v ∧ Way H b w ∧ WayOk ws us v ∧ WayOk us xs w ∧ ws.length ≤ 120 ∧ us.length ≤ 120 ∧ (∀ x ∈ us, 0 ≤ x ∧ x ≤ 12) ∧ (∀ x ∈ xs, 0 ≤ x ∧ x ≤ 12) ∧ ∀ c H', Same H H' → Way H' c (thenW v w) → Q (.ref c) H'
/-! ### crates and ways from each to the next -/
def Chn (H : Hp) (ts : List Addr) (cs : List (List Int)) (bs : List Addr) (vs : List (List (Int × List Int))) : Prop :=
  ts.length = cs.length ∧ bs.length = vs.length ∧ cs.length = vs.length + 1 ∧ (∀ (j : Nat) (t : Addr) (c : List Int), ts[j]? = some t → cs[j]? = some c → H t = some (.tup (c.map V.int)) ∧ c.length ≤ 60 ∧ ∀ x ∈ c, 0 ≤ x ∧ x ≤ 12) ∧
  ∀ (j : Nat) (b : Addr) (v : List (Int × List Int)) (c d : List Int), bs[j]? = some b → vs[j]? = some v → cs[j]? = some c → cs[j + 1]? = some d → Way H b v ∧ WayOk c d v
theorem Chn.keep {H H' : Hp} {ts : List Addr} {cs : List (List Int)} {bs : List Addr} {vs : List (List (Int × List Int))} (h : Chn H ts cs bs vs) (k : KeepT H H') : Chn H' ts cs bs vs := by
  obtain ⟨h1, h2, h3, h4, h5⟩ := h
  refine ⟨h1, h2, h3, fun j t c a b => ?_, fun j b v c d p q r s => ?_⟩
  · obtain ⟨e, f⟩ := h4 j t c a b
    exact ⟨k _ _ e, f⟩
  · obtain ⟨e, f⟩ := h5 j b v c d p q r s
    exact ⟨e.keep k, f⟩
theorem get_app {α : Type} {xs : List α} {x y : α} {j : Nat} (h : (xs ++ [x])[j]? = some y) : (j < xs.length ∧ xs[j]? = some y) ∨ (j = xs.length ∧ y = x) := by
  by_cases hj : j < xs.length
  · rw [List.getElem?_append_left hj] at h
    exact .inl ⟨hj, h⟩
  · have hlt := (List.getElem?_eq_some_iff.mp h).1
    rw [List.length_append, List.length_singleton] at hlt
    have e : j = xs.length := by omega
    subst e
    rw [List.getElem?_append_right (Nat.le_refl _), Nat.sub_self] at h
    exact .inr ⟨rfl, (Option.some.inj h).symm⟩
theorem Chn.push {H : Hp} {ts : List Addr} {cs : List (List Int)} {bs : List Addr} {vs : List (List (Int × List Int))} {t b : Addr} {c d : List Int} {v : List (Int × List Int)} (h : Chn H ts cs bs vs) (hc : cs[vs.length]? = some c) (ht : H t = some (.tup (d.map V.int))) (hl : d.length ≤ 60) (hd : ∀ x ∈ d, 0 ≤ x ∧ x ≤ 12) (hv : Way H b v) (ok : WayOk c d v) : Chn H (ts ++ [t]) (cs ++ [d]) (bs ++ [b]) (vs ++ [v]) := by
  obtain ⟨h1, h2, h3, h4, h5⟩ := h
  refine ⟨by rw [List.length_append, List.length_append, h1]; rfl, by rw [List.length_append, List.length_append, h2]; rfl, by rw [List.length_append, List.length_append, h3]; rfl, fun j t' c' p q => ?_, fun j b' v' c' d' p q r s => ?_⟩
  · rcases get_app p with ⟨p0, p1⟩ | ⟨rfl, rfl⟩
    · rcases get_app q with ⟨_, q1⟩ | ⟨q0, _⟩
      · exact h4 j t' c' p1 q1
      · omega
    · rcases get_app q with ⟨q0, _⟩ | ⟨_, rfl⟩
      · omega
      · exact ⟨ht, hl, hd⟩
  · rcases get_app p with ⟨p0, p1⟩ | ⟨p0, rfl⟩
    · rcases get_app q with ⟨_, q1⟩ | ⟨q0, _⟩
      · rcases get_app r with ⟨_, r1⟩ | ⟨r0, _⟩
        · rcases get_app s with ⟨_, s1⟩ | ⟨s0, _⟩
          · exact h5 j b' v' c' d' p1 q1 r1 s1
          · omega
        · omega
      · omega
    · rcases get_app q with ⟨q0, _⟩ | ⟨_, rfl⟩
      · omega
      · rcases get_app s with ⟨s0, _⟩ | ⟨s0, rfl⟩
        · omega
        · rcases get_app r with ⟨_, r1⟩ | ⟨r0, _⟩
          · have e : j = vs.length := by omega
            rw [e, hc] at r1
            cases r1
            exact ⟨hv, ok⟩
          · omega
theorem at_last {ts : List Addr} {j : Nat} {t : Addr} (hj : ts.length = j + 1) (h : ts[j]? = some t) : atI (ts.map V.ref) (-1) = some (.ref t) := by
  have e : ts.map V.ref = (ts.take j).map V.ref ++ [.ref t] := by
    rw [show ([V.ref t] : List V) = [t].map V.ref from rfl, ← List.map_append]
    congr 1
    have := List.take_add_one (l := ts) (i := j)
    rw [h, ← hj, List.take_length] at this
    exact this
  rw [e]
  exact atI_last _ _
end Tm

namespace Tm
open PySem PySem.Spec PyProof.Rows L2 HT
/-! ### t[::-1], t a tuple: a new one -/
theorem adjust_rev (n : Nat) : Builtin.Slice.sliceAdjust none none (-1) (n : Int) = ((n : Int) - 1, -1) := by
  unfold Builtin.Slice.sliceAdjust
  rfl
theorem places_rev (n : Nat) : Builtin.Slice.slicePlaces ((n : Int) - 1) (-1) (-1) = n := by
  unfold Builtin.Slice.slicePlaces
  have h1 : ¬ ((-1 : Int) > 0) := by omega
  simp only [h1, if_false, show (- -1 : Int) = 1 by decide, Int.ediv_one]
  split <;> omega
theorem fm_congr {α β : Type} {f g : α → Option β} : ∀ {l : List α}, (∀ x ∈ l, f x = g x) → l.filterMap f = l.filterMap g
  | [], _ => rfl
  | x :: l, h => by
    rw [List.filterMap_cons, List.filterMap_cons, h x List.mem_cons_self, fm_congr fun y hy => h y (List.mem_cons_of_mem _ hy)]
theorem pick_rev (xs : Array Value) : ((List.range xs.size).filterMap fun (m : Nat) => xs[((xs.size : Int) - 1 + (m : Int) * -1).toNat]?).toArray = xs.toList.reverse.toArray := by
  congr 1
  have h := PySem.W.krv_all xs
  rw [← h, ← List.filterMap_reverse, ← PySem.W.krv_range, List.filterMap_map]
  refine fm_congr fun m hm => ?_
  have := List.mem_range.mp hm
  show xs[((xs.size : Int) - 1 + (m : Int) * -1).toNat]? = xs[xs.size - 1 - m]?
  rw [show ((xs.size : Int) - 1 + (m : Int) * -1).toNat = xs.size - 1 - m by omega]
section
variable {prog : Program} {w : World} {A : Around} {E : Value → Shared → Prop} {s : Shared}
theorem sliceApplied_rev {sl : Addr} {vl vu vs : Value} {n : Nat} {Q : Int × Int × Nat → Shared → Prop} (hs : s.heap.IsSliceOf sl vl vu vs) (pl : IsPart vl none) (pu : IsPart vu none) (ps : IsPart vs (some (-1)))
    (h : Q ((n : Int) - 1, -1, n) s) : wpAny (model prog w) A (Builtin.Slice.sliceApplied (.ref sl) (pure (n : Int))) Q E s := by
  obtain ⟨os, hos, hcs, hds⟩ := id hs
  unfold Builtin.Slice.sliceApplied Builtin.Slice.sliceFields
  refine wpAny_bind (wpAny_bind (wpAny_field hos hds (x := vl) rfl (wpAny_bind (wpAny_field hos hds (x := vu) rfl (wpAny_bind (wpAny_field hos hds (x := vs) rfl (wpAny_pure ?_)))))))
  refine wpAny_bind (slicePart_ ps ?_)
  show wpAny _ _ (if ((-1 : Int) == 0) = true then _ else _) _ _ s
  rw [if_neg (by decide)]
  refine wpAny_bind (slicePart_ pl (wpAny_bind (slicePart_ pu (wpAny_bind (wpAny_pure ?_)))))
  show wpAny _ _ (match Builtin.Slice.sliceAdjust none none (-1) (n : Int) with | (lo, hi) => pure (lo, (-1 : Int), Builtin.Slice.slicePlaces lo hi (-1))) _ _ s
  rw [adjust_rev n]
  show wpAny _ _ (pure ((n : Int) - 1, (-1 : Int), Builtin.Slice.slicePlaces ((n : Int) - 1) (-1) (-1))) _ _ s
  rw [places_rev]
  exact wpAny_pure h
theorem getItem_tuple_rev {t sl : Addr} {items : Array Value} {vl vu vs : Value} {Q : Value → Shared → Prop} (ht : IsTup s.heap t items) (hs : s.heap.IsSliceOf sl vl vu vs) (pl : IsPart vl none) (pu : IsPart vu none) (ps : IsPart vs (some (-1)))
    (h : Q (.ref s.heap.objs.size) { s with heap := s.heap.push { cls := .type "tuple", data := .seq items.toList.reverse.toArray } })
    (hsz : items.size ≤ sizeLine) : wpAny (model prog w) A (getItem (.ref t) (.ref sl)) Q E s := by
  have htake : sizeOk (.seq items.toList.reverse.toArray) := by
    show items.toList.reverse.toArray.size ≤ sizeLine
    rw [List.size_toArray, List.length_reverse, Array.length_toList]
    exact hsz
  obtain ⟨os, hos, hcs, hds⟩ := id hs
  have hTs : s.TypeIs (.ref sl) "slice" := ⟨os, hos, hcs⟩
  unfold getItem
  try with_reducible refine wpAny_holding ?_
  first | refine wpAny_bind (wpAny_pure ?_) | skip
  refine wpAny_bind (wpAny_sequenceKey ht.typeIs (by decide) ?_)
  refine wpAny_bind (wpAny_callSpecial?_slot (name := Str.ofString "__getitem__") ht.typeIs PyProof.Rows.slot_tuple_getitem
    (wpAny_call_entry PyProof.Rows.slot_tuple_getitem ht.typeIs entry_tuple_getitem ?_ (args_tuple_getitem _ _)))
  show wpAny _ _ (Builtin.Tuple.tupleItemsOf (.ref t) >>= _) _ _ s
  refine wpAny_bind (tupleItemsOf_ ht ?_)
  refine wpAny_bind (wpAny_typeOf hTs ?_)
  rw [if_pos (by decide)]
  refine wpAny_bind (sliceApplied_rev hs pl pu ps ?_)
  have hno : ¬ ((((items.size : Int) - 1) == 0 && (-1 : Int) == 1 && items.size == items.size) = true) := by
    rw [show ((-1 : Int) == 1) = false by decide, Bool.and_false, Bool.false_and]
    exact Bool.false_ne_true
  show wpAny _ _ (if (((items.size : Int) - 1) == 0 && (-1 : Int) == 1 && items.size == items.size) = true then _ else _) _ _ s
  rw [if_neg hno, pick_rev]
  first
    | exact wpAny_bind (m := Builtin.Tuple.tupleExact _) (wpAny_newObj_type (wpAny_pure ⟨_, rfl, wpAny_pure h⟩) htake)
    | exact wpAny_bind (m := Builtin.Tuple.tupleExact _) (wpAny_newObj_type (wpAny_bind (wpAny_pure (wpAny_pure ⟨_, rfl, wpAny_pure h⟩))) htake)
    | exact wpAny_bind (wpAny_bind (m := Builtin.Tuple.tupleExact _) (wpAny_newObj_type (wpAny_pure (wpAny_pure ⟨_, rfl, wpAny_pure h⟩)) htake))
    | exact wpAny_bind (wpAny_bind (m := Builtin.Tuple.tupleExact _) (wpAny_newObj_type (wpAny_pure ⟨_, rfl, wpAny_pure h⟩) htake))
end
section
variable {X : Cx}
def tRevT (K : PySem.W.Frag) (te : TE) : TE := fun σ H Q => te σ H fun x H1 => ∃ a xs, x = .ref a ∧ SqT K H1 a xs ∧ ∀ p, H1 p = none → Q (.ref p) (upd H1 p (.tup xs.reverse))
theorem pe_revT {e : Expr} {te : TE} {k : Nat} {p1 p2 p3 pos : Pos} (he : PE X e te) : PE X (.Subscript e (.Slice none none (some (.UnaryOp .USub (.Constant (.int 1) k p1) p2)) p3) pos) (tRevT X.K te) := by
  refine ⟨fun pins s σ H Q I h => ?_⟩
  refine Subscript_ (thn (he.run pins s σ H _ I h) fun v s1 ⟨x, H1, I1, r1, q1⟩ => ?_)
  obtain ⟨a, xs, ex, hx, q⟩ := q1
  subst ex
  cases r1
  have hst : PO X (some (.UnaryOp .USub (.Constant (.int 1) k p1) p2)) (tPart (tUn (rU fun i => .int (-i)) (tC (.int 1)))) := po_some (pe_un un_neg pe_int)
  refine wpAny_Slice (thn (po_none.run pins s1 σ H1 (fun o H2 => o = none ∧ H2 = H1) I1 ⟨rfl, rfl⟩) fun vl s2 ⟨l, H2, I2, pl, el, e2⟩ => ?_)
  subst el e2
  refine thn (po_none.run pins s2 σ H2 (fun o H3 => o = none ∧ H3 = H2) I2 ⟨rfl, rfl⟩) fun vu s3 ⟨u, H3, I3, pu, eu, e3⟩ => ?_
  subst eu e3
  refine thn (hst.run pins s3 σ H3 (fun o H4 => o = some (-1) ∧ H4 = H3) I3 ⟨1, rfl, -1, rfl, rfl, rfl⟩) fun vs s4 ⟨o, H4, I4, ps, eo, e4⟩ => ?_
  subst eo e4
  have I5 : Inv X pins σ H4 { s4 with heap := s4.heap.push { cls := .type "slice", data := .fields #[vl, vu, vs] } } := I4.kept (t' := s4.toks) fun b ob q => Heap.get?_push_of_some _ q
  obtain ⟨its, r, ht, hz⟩ := I5.tuple hx
  have hlen := r.length
  show wpAny (model X.prog X.w) X.A (subscriptTail e (.Slice none none (some (.UnaryOp .USub (.Constant (.int 1) k p1) p2)) p3) (.ref a) (.ref s4.heap.objs.size)) (EP X pins σ Q) X.xe { s4 with heap := s4.heap.push { cls := .type "slice", data := .fields #[vl, vu, vs] } }
  refine tail_any (ops := [.ref a, .ref s4.heap.objs.size]) ht.typeIs (PyProof.Rows.slot_tuple_getitem.lookup) ?_ (by with_unfolding_all rfl)
  refine getItem_tuple_rev ht (Heap.IsSliceOf.new _ vl vu vs) pl pu ps ?_ (by rw [List.size_toArray]; omega)
  refine ⟨.ref _, _, I5.laid (t' := s4.toks) (o := .tup xs.reverse) (fun b ob q => Heap.get?_push_of_some _ q) (Nat.le_refl _) ?_, rfl, q _ (I5.hok.fresh (Nat.le_refl _))⟩
  exact ⟨by rw [List.length_reverse]; exact hz, _, r.reverse, IsTup.new _ _⟩
end
/-! ### t[:i] -/
theorem r_take {K : PySem.W.Frag} {H : Hp} {a : Addr} {xs : List V} {i : Int} {Q : V → Hp → Prop} (ea : H a = some (.tup xs)) (i0 : 0 ≤ i) (i1 : i ≤ (xs.length : Int)) (q : ∀ c H', Same H H' → H' c = some (.tup (xs.take i.toNat)) → Q (.ref c) H') : rSlA K (.ref a) none (some i) H Q := by
  have e : HT.sIx xs.length xs.length (some i) = i.toNat := by
    show (if i < 0 then (i + (xs.length : Int)).toNat else min i.toNat xs.length) = i.toNat
    rw [if_neg (by omega)]
    omega
  have e2 : cutV xs none (some i) = xs.take i.toNat := by
    unfold cutV
    rw [e]
    rfl
  refine ⟨a, xs, rfl, SqT.of ea, fun h => q a H same_refl ?_, fun _ p hp => q p _ (same_upd hp) ?_⟩
  · rw [e] at h
    rw [h.2, List.take_length]
    exact ea
  · rw [upd_same, e2]
/-! ### divisors below 2 ^ 64 -/
theorem divp_small {i j : Int} (hj : 0 < j) (h : j < 2 ^ 64) : CDivP i j := by
  refine ⟨hj, ?_⟩
  show (decide ((if j == 0 then 0 else j.natAbs.log2 / 30 + 1) > 300) && decide ((if i == 0 then 0 else i.natAbs.log2 / 30 + 1) > (if j == 0 then 0 else j.natAbs.log2 / 30 + 1) + 150)) = false
  rw [if_neg (show ¬ (j == 0) = true by simpa using (show j ≠ 0 by omega))]
  have l : j.natAbs.log2 < 64 := PySem.Flt.log2_lt_of (by decide) (by omega)
  rw [decide_eq_false (by omega), Bool.false_and]
/-! ### the last pair of a way -/
theorem wnum_take {us ws : List Int} {wy : List (Int × List Int)} {i : Nat} {x : Int} {p : Int × List Int} (hx : ws[i]? = some x) (hp : wy[i]? = some p) : wnum us (ws.take (i + 1)) (wy.take (i + 1)) = wnum us (ws.take i) (wy.take i) * cnt x us + fnum x us p := by
  have h1 := (List.getElem?_eq_some_iff.mp hx).1
  have h2 := (List.getElem?_eq_some_iff.mp hp).1
  rw [List.take_add_one, List.take_add_one, hx, hp]
  show wnum us (ws.take i ++ [x]) (wy.take i ++ [p]) = _
  rw [wnum_app (by rw [List.length_take, List.length_take]; omega)]
  show wnum us (ws.take i) (wy.take i) * (cnt x us * 1) + (fnum x us p * 1 + 0) = _
  rw [Int.mul_one, Int.mul_one, Int.add_zero]
theorem many_pos {us : List Int} : ∀ {ws : List Int}, (∀ x ∈ ws, 0 ≤ x) → 0 < manyW us ws → ∀ x ∈ ws, 0 < cnt x us
  | [], _, _, x, hx => by cases hx
  | y :: ws, hw, h, x, hx => by
    have y0 := cnt_nonneg (hw y List.mem_cons_self) us
    have m0 := many_nn (us := us) (ws := ws) fun z hz => hw z (List.mem_cons_of_mem _ hz)
    have h' : 0 < cnt y us * manyW us ws := h
    have hy : cnt y us ≠ 0 := fun e => by rw [e, Int.zero_mul] at h'; omega
    have hm : manyW us ws ≠ 0 := fun e => by rw [e, Int.mul_zero] at h'; omega
    rcases List.mem_cons.mp hx with rfl | hx
    · omega
    · exact many_pos (fun z hz => hw z (List.mem_cons_of_mem _ hz)) (by omega) x hx
/-! ### what is asked of anything -/
def pairT : PyData → Bool
  | .tuple ds => decide (ds.length = 2)
  | _ => false
def crateD : PyData → Bool
  | .tuple ds => decide (ds.length ≤ 60) && ds.all (wellD 13)
  | _ => false
def fitsD (us : List Int) : PyData → Bool
  | .tuple [.int t, .tuple fs] => decide (0 ≤ t) && decide (t < (us.length : Int)) && decide (us[t.toNat]? = some ((fs.length : Nat) : Int))
  | _ => false
theorem well_whole {b : Int} {d : PyData} (h : wholeD d = false) : wellD b d = false := by
  cases d <;> first | rfl | cases h
theorem fits_pair {us : List Int} {d : PyData} (h : pairT d = false) : fitsD us d = false := by
  unfold fitsD
  split
  · cases h
  · rfl
theorem fits_whole {us : List Int} {d e : PyData} (h : wellD (us.length : Int) d = false) : fitsD us (.tuple [d, e]) = false := by
  cases d <;> cases e <;> try rfl
  rename_i t fs
  have h' : (decide (0 ≤ t) && decide (t < (us.length : Int))) = false := h
  show (decide (0 ≤ t) && decide (t < (us.length : Int)) && decide (us[t.toNat]? = some ((fs.length : Nat) : Int))) = false
  rw [h', Bool.false_and]
theorem fits_snd {us : List Int} {d e : PyData} (h : tupD e = false) : fitsD us (.tuple [d, e]) = false := by
  cases d <;> cases e <;> first | rfl | cases h
theorem pair_fits {us : List Int} {x : Int} {d : PyData} (h : fitsD us d = false) : pairD us x d = false := by
  unfold pairD
  split
  · rename_i t fs
    have h' : (decide (0 ≤ t) && decide (t < (us.length : Int)) && decide (us[t.toNat]? = some ((fs.length : Nat) : Int))) = false := h
    rw [h', Bool.false_and]
  · rfl
theorem fits_shape {us : List Int} {d : PyData} (h : fitsD us d = true) : ∃ t fs, d = .tuple [.int t, .tuple fs] ∧ 0 ≤ t ∧ t < (us.length : Int) ∧ us[t.toNat]? = some ((fs.length : Nat) : Int) ∧ ∀ x, pairD us x d = fs.all (wellD x) := by
  unfold fitsD at h
  split at h
  · rename_i t fs
    have h' := h
    rw [Bool.and_eq_true, Bool.and_eq_true] at h
    refine ⟨t, fs, rfl, of_decide_eq_true h.1.1, of_decide_eq_true h.1.2, of_decide_eq_true h.2, fun x => ?_⟩
    show (decide (0 ≤ t) && decide (t < (us.length : Int)) && decide (us[t.toNat]? = some ((fs.length : Nat) : Int)) && fs.all (wellD x)) = _
    rw [h', Bool.true_and]
  · cases h
theorem crateD_ints {ws : List Int} (hl : ws.length ≤ 60) (hw : ∀ x ∈ ws, 0 ≤ x ∧ x ≤ 12) : crateD (.tuple (ws.map PyData.int)) = true := by
  show (decide ((ws.map PyData.int).length ≤ 60) && (ws.map PyData.int).all (wellD 13)) = true
  rw [List.length_map, decide_eq_true hl, Bool.true_and]
  exact wells_ints fun y hy => ⟨(hw y hy).1, by have := (hw y hy).2; omega⟩
theorem dq_ints {N : Addr → Prop} {H : Hp} {t : Addr} {ws : List Int} (e : H t = some (.tup (ws.map V.int))) : Dq N H (.ref t) (.tuple (ws.map PyData.int)) := .tup e (DqAll.ints ws)
theorem isWayD_table {ws us : List Int} {ds : List PyData} (h : ds.length = ws.length) : isWayD ws us (.tuple ds) = ((ws.zip ds).map fun p => pairD us p.1 p.2).all id := by
  cases hb : ((ws.zip ds).map fun p => pairD us p.1 p.2).all id with
  | true =>
    refine pairs_yes h fun i x d h1 h2 => ?_
    rw [List.all_map, List.all_eq_true] at hb
    exact hb (x, d) (List.mem_of_getElem? (i := i) (by rw [List.getElem?_zip_eq_some]; exact ⟨h1, h2⟩))
  | false =>
    rw [List.all_map, List.all_eq_false] at hb
    obtain ⟨⟨x, d⟩, hm, hn⟩ := hb
    obtain ⟨i, hi⟩ := List.getElem?_of_mem hm
    rw [List.getElem?_zip_eq_some] at hi
    exact pairs_no hi.1 hi.2 (Bool.eq_false_iff.mpr hn)
/-! ### a comprehension over zip of two tuples -/
theorem lc_zipT {K : PySem.W.Frag} {a b : Addr} {xs ys : List V} {g : TG} {tt : TT} {te : TE} {vs : List Nat} {σ : L2.St} {H1 : Hp} {D : Addr} {Qd : Hp → Prop} (hl : xs.length = ys.length) (Pv : Nat → Hp → Prop) (h0 : Pv 0 (upd H1 D (.lst []))) (hq : ∀ i H, Pv i H → SqT K H a xs ∧ SqT K H b ys)
    (hs : ∀ i x y T H, xs[i]? = some x → ys[i]? = some y → Pv i H → H T = none → g (.ref T) (wipe σ vs) (upd H T (.tup [x, y])) fun σ2 H2 => wipe σ2 vs = wipe σ vs ∧ tt σ2 H2 fun b H3 =>
      if b = true then te σ2 H3 fun y H4 => ∃ acc, H4 D = some (.lst acc) ∧ acc.length < sizeLine ∧ Pv (i + 1) (upd H4 D (.lst (acc ++ [y]))) else Pv (i + 1) H3) (hd : ∀ H, Pv xs.length H → Qd H) :
    ∃ W : Nat → Nat → Hp → Prop, (∃ m, W 0 m (upd H1 D (.lst []))) ∧ ∀ i m H, W i m H →
      ((RZ.ItzT K a b).stop i H ∧ Qd H) ∨ ((RZ.ItzT K a b).go i H ∧ ∃ Nx : Hp → Prop, (∀ H', Nx H' → ∃ m', m' < m ∧ W (i + 1) m' H') ∧ ∀ x H', (RZ.ItzT K a b).yld i H x H' → g x (wipe σ vs) H' fun σ2 H2 => wipe σ2 vs = wipe σ vs ∧ tt σ2 H2 fun b H3 =>
        if b = true then te σ2 H3 fun y H4 => ∃ acc, H4 D = some (.lst acc) ∧ acc.length < sizeLine ∧ Nx (upd H4 D (.lst (acc ++ [y]))) else Nx H3) := by
  refine ⟨fun i m H => m = xs.length - i ∧ i ≤ xs.length ∧ Pv i H, ⟨xs.length, by simp, Nat.zero_le _, h0⟩, ?_⟩
  rintro i m H ⟨rfl, hi, p⟩
  obtain ⟨qx, qy⟩ := hq i H p
  by_cases hlt : i < xs.length
  · have hx : xs[i]? = some xs[i] := List.getElem?_eq_getElem hlt
    have hlt2 : i < ys.length := by omega
    have hy : ys[i]? = some ys[i] := List.getElem?_eq_getElem hlt2
    refine .inr ⟨⟨xs, ys, _, _, qx, qy, hx, hy⟩, Pv (i + 1), fun H' p' => ⟨xs.length - (i + 1), by omega, rfl, hlt, p'⟩, fun v H' y => ?_⟩
    obtain ⟨T, x', y', rfl, hT, rfl, f1, f2⟩ := y
    exact hs i x' y' T H (f1 xs qx) (f2 ys qy) p hT
  · have e : i = xs.length := by omega
    subst e
    exact .inl ⟨⟨xs, ys, qx, qy, Or.inl (Nat.le_refl _)⟩, hd H p⟩
theorem told_sc {p l : Addr} {H : Hp} (S : Sc p l H) : Told (fun c => c = p ∨ c = l) H := by
  obtain ⟨_, ns, a, b, e1, e2, _⟩ := S
  intro c hc h
  rcases hc with rfl | rfl
  · rw [e1] at h
    cases h
  · rw [e2] at h
    cases h
/-! ### things taken by wells -/
def pickV (xs : List V) (ys : List Int) : List V := ys.map fun y => xs.getD y.toNat .non
theorem pickV_len (xs : List V) (ys : List Int) : (pickV xs ys).length = ys.length := List.length_map ..
theorem pickV_get {xs : List V} {y : Int} (h0 : 0 ≤ y) (h1 : y < (xs.length : Int)) : xs[y.toNat]? = some (xs.getD y.toNat .non) := by
  have hl : y.toNat < xs.length := by omega
  rw [List.getD_eq_getElem?_getD, List.getElem?_eq_getElem hl]
  rfl
theorem pickV_at {xs : List V} {y : Int} (h0 : 0 ≤ y) (h1 : y < (xs.length : Int)) : atI xs y = some (xs.getD y.toNat .non) := at_of (j := y.toNat) (by omega) (pickV_get h0 h1)
theorem pickV_mem {xs : List V} {ys : List Int} (h : Below (xs.length : Int) ys) {v : V} (hv : v ∈ pickV xs ys) : v ∈ xs := by
  obtain ⟨y, hy, rfl⟩ := List.mem_map.mp hv
  obtain ⟨h0, h1⟩ := h y hy
  exact List.mem_of_getElem? (pickV_get h0 h1)
theorem pickV_ints {r ys : List Int} (h : Below (r.length : Int) ys) : pickV (r.map V.int) ys = (ys.map (pick r)).map V.int := by
  unfold pickV
  rw [List.map_map]
  refine List.map_congr_left fun y hy => ?_
  obtain ⟨h0, h1⟩ := h y hy
  show (r.map V.int).getD y.toNat .non = V.int (r.getD y.toNat 0)
  have hl : y.toNat < r.length := by omega
  rw [List.getD_eq_getElem?_getD, List.getD_eq_getElem?_getD, List.getElem?_map, List.getElem?_eq_getElem hl]
  rfl
/-- what a way makes of a filling of anything -/
def spTurned : Sp := fun vs H Q _ => ∃ (wv f c : Addr) (s : Int) (xs : List V) (wy : List (Int × List Int)) (p : Int × List Int), vs = [.ref wv, .ref f] ∧ Way H wv wy ∧ H f = some (.tup [.int s, .ref c]) ∧ H c = some (.tup xs) ∧ 0 ≤ s ∧ wy[s.toNat]? = some p ∧ Below (xs.length : Int) p.2 ∧ p.2.length ≤ 900 ∧
  ∀ a b H', Same H H' → H a = none → H' a = some (.tup [.int p.1, .ref b]) → H' b = some (.tup (pickV xs p.2)) → Q (.ref a) H'
theorem dp_bools {K : PySem.W.Frag} {H : Hp} {a : Addr} {x y z : Bool} (e : H a = some (.lst [.bl x, .bl y, .bl z])) : Dp K H (.ref a) (.list [.bool x, .bool y, .bool z]) := .lst (SqL.of e) (.cons (.bl x) (.cons (.bl y) (.cons (.bl z) .nil)))
theorem shaped_bools (x y z : Bool) : SeqAt.shaped (.list [.bool x, .bool y, .bool z]) = true := by
  unfold SeqAt.shaped
  simp [PyData.canLay0, PyData.canLayAll0, PyData.depth, PyData.depthAll]
theorem eqv_bools (x y z : Bool) : PyData.eqv (.list [.bool x, .bool y, .bool z]) (.list [.bool x, .bool y, .bool z]) = true := by
  simp [PyData.eqv, PyData.eqvAll]
/-- the suite of a law's except: e, odd and refused by their slots -/
def tsErr (K : PySem.W.Frag) (C c1 c2 c3 c4 c5 c6 : Addr) (se so sr : Nat) : Addr → Value → Option Addr → TS := fun a cls d =>
  tSeq (tAsg (tCB (rIsXT K C a cls d) (tCons (tVar se) (tCons (tTup (tCons (tC (.ref c1)) (tCons (tC (.ref c2)) (tCons (tC (.ref c3)) (tCons (tC (.ref c4)) (tCons (tC (.ref c5)) (tCons (tC (.ref c6)) tNil))))))) tNil))) (gName so))
    (tAsg (tLst (tCons (tCB (rIsX K C a cls d) (tCons (tVar se) (tCons (tC (.ref C)) tNil))) (tCons (tCB (rIsX K C a cls d) (tCons (tVar se) (tCons (tC (.ty "ValueError")) tNil))) (tCons (tVar so) tNil)))) (gName sr))
/-! ### t[1:] -/
theorem r_tail {K : PySem.W.Frag} {σ : L2.St} {H : Hp} {a : Addr} {xs : List V} {Q : V → Hp → Prop} (ea : H a = some (.tup xs)) (q : ∀ c H', Same H H' → H' c = some (.tup (xs.drop 1)) → Q (.ref c) H') : tNoPart σ H (fun u H3 => rSlA K (.ref a) (some 1) u H3 Q) := by
  have e1 : HT.sIx xs.length 0 (some (1 : Int)) = min 1 xs.length := HT.sIx_nat xs.length 0 1
  have e2 : cutV xs (some 1) none = xs.drop 1 := by
    unfold cutV
    rw [e1, HT.sIx_none]
    cases xs with
    | nil => rfl
    | cons x r =>
      rw [show min 1 (x :: r).length = 1 by simp]
      exact List.take_of_length_le (by simp)
  refine ⟨a, xs, rfl, SqT.of ea, fun h => q a H same_refl ?_, fun _ p hp => q p _ (same_upd hp) ?_⟩
  · rw [e1] at h
    cases xs with
    | nil => exact ea
    | cons x r => simp at h
  · rw [upd_same, e2]
/-! ### lists of ways -/
def Ways (H : Hp) (xs : List V) (wys : List (List (Int × List Int))) : Prop := xs.length = wys.length ∧ ∀ (i : Nat) (x : V) (w : List (Int × List Int)), xs[i]? = some x → wys[i]? = some w → ∃ a, x = .ref a ∧ Way H a w
theorem Ways.keep {H H' : Hp} {xs : List V} {wys : List (List (Int × List Int))} (h : Ways H xs wys) (k : KeepT H H') : Ways H' xs wys := ⟨h.1, fun i x w h1 h2 => by
  obtain ⟨a, e, q⟩ := h.2 i x w h1 h2
  exact ⟨a, e, q.keep k⟩⟩
theorem Ways.push {H : Hp} {xs : List V} {wys : List (List (Int × List Int))} {a : Addr} {w : List (Int × List Int)} (h : Ways H xs wys) (e : Way H a w) : Ways H (xs ++ [.ref a]) (wys ++ [w]) := by
  refine ⟨by rw [List.length_append, List.length_append, h.1]; rfl, fun i x v h1 h2 => ?_⟩
  by_cases hi : i < xs.length
  · rw [List.getElem?_append_left hi] at h1
    rw [List.getElem?_append_left (by rw [← h.1]; exact hi)] at h2
    exact h.2 i x v h1 h2
  · have hlt : i < (xs ++ [V.ref a]).length := (List.getElem?_eq_some_iff.mp h1).1
    rw [List.length_append] at hlt
    have ei : i = xs.length := by
      have : ([V.ref a] : List V).length = 1 := rfl
      omega
    subst ei
    rw [List.getElem?_append_right (Nat.le_refl _), Nat.sub_self] at h1
    rw [h.1, List.getElem?_append_right (Nat.le_refl _), Nat.sub_self] at h2
    cases h1
    cases h2
    exact ⟨a, rfl, e⟩
theorem dq_ways {N : Addr → Prop} {H : Hp} : ∀ {xs : List V} {wys : List (List (Int × List Int))}, Ways H xs wys → DqAll N H xs (wys.map dWay)
  | [], [], _ => .nil
  | [], w :: wys, h => by have := h.1; simp at this
  | x :: xs, [], h => by have := h.1; simp at this
  | x :: xs, w :: wys, h => by
    obtain ⟨a, rfl, q⟩ := h.2 0 x w rfl rfl
    exact .cons (dq_way q) (dq_ways ⟨by have := h.1; simpa using this, fun i y v h1 h2 => h.2 (i + 1) y v h1 h2⟩)
theorem flat_way (wy : List (Int × List Int)) : Flat 4 (dWay wy) := ⟨by
  rw [show PyData.canLay0 (dWay wy) = PyData.canLayAll0 (wy.map dPair) by simp only [dWay, PyData.canLay0]]
  exact canLay_pairs wy, by
  have := depth_pairs wy
  rw [show PyData.depth (dWay wy) = PyData.depthAll (wy.map dPair) + 1 by simp only [dWay, PyData.depth]]
  omega⟩
theorem shaped_ways (wys : List (List (Int × List Int))) : SeqAt.shaped (.list (wys.map dWay)) = true := (flat_lst (n := 4) (flatL_of fun d hd => by
  obtain ⟨w, _, rfl⟩ := List.mem_map.mp hd
  exact flat_way w)).shaped (by decide)
theorem eqv_ways0 : ∀ wys : List (List (Int × List Int)), PyData.eqv (.list (wys.map dWay)) (.list []) = wys.isEmpty
  | [] => by simp [PyData.eqv, PyData.eqvAll]
  | n :: r => by simp [PyData.eqv, PyData.eqvAll]
theorem shaped_nil : SeqAt.shaped (.list []) = true := shaped_ints []
/-! ### a filling of numbers turned -/
theorem turned_fill {us vs : List Int} {w : List (Int × List Int)} {x : Int} {p : Int × List Int} (okW : WayOk us vs w) (fp : FillOk x us p) (hv : ∀ v ∈ vs, 0 ≤ v ∧ v ≤ 12) : ∃ r, w[p.1.toNat]? = some r ∧ Below ((p.2.map V.int).length : Int) r.2 ∧ r.2.length ≤ 900 ∧ stepW w p = (r.1, r.2.map (pick p.2)) ∧ pickV (p.2.map V.int) r.2 = (r.2.map (pick p.2)).map V.int := by
  obtain ⟨r, gr, fr⟩ := way_at okW fp
  refine ⟨r, gr, ?_, ?_, step_some gr, pickV_ints fr.2.2.2⟩
  · rw [List.length_map]
    exact fr.2.2.2
  · have := hv _ (List.mem_of_getElem? fr.2.2.1)
    omega
theorem plain_fill {ws : List Int} {i : Nat} {x : Int} (hw : ∀ x ∈ ws, 0 ≤ x) (g : ws[i]? = some x) : FillOk x ws ((i : Int), iota x) := by
  have := (idle_ok hw).2 i _ x (idle_get g) g
  exact this
theorem eqv_pairL (a b : List (Int × List Int)) : PyData.eqv (.list (a.map dPair)) (.list (b.map dPair)) = decide (a = b) := by
  rw [show PyData.eqv (.list (a.map dPair)) (.list (b.map dPair)) = PyData.eqvAll (a.map dPair) (b.map dPair) by simp only [PyData.eqv]]
  exact eqv_pairs a b
theorem flat_pair (p : Int × List Int) : Flat 3 (dPair p) := flat_tup (n := 2) (flatL_cons (flat_int _) (flatL_cons (flat_tup (n := 1) (flatL_ints _)) flatL_nil))
theorem shaped_pairL (a : List (Int × List Int)) : SeqAt.shaped (.list (a.map dPair)) = true := (flat_lst (n := 3) (flatL_of fun d hd => by
  obtain ⟨w, _, rfl⟩ := List.mem_map.mp hd
  exact flat_pair w)).shaped (by decide)
theorem shaped_pair (p : Int × List Int) : SeqAt.shaped (dPair p) = true := (flat_pair p).shaped (by decide)
theorem then_idle_get {ws us : List Int} {v : List (Int × List Int)} (hv : WayOk ws us v) {i : Nat} {x : Int} (g : ws[i]? = some x) : v[i]? = some (stepW v ((i : Int), iota x)) := by
  have h := then_get (w := v) (idle_get g)
  rw [idle_then hv] at h
  exact h
/-! ### read_off -/
/-- of what is a way -/
def spReadOk : Sp := fun vs H Q _ => ∃ (t1 t2 a : Addr) (ws us : List Int) (xs : List V) (wy : List (Int × List Int)), vs = [.ref t1, .ref t2, .ref a] ∧ H t1 = some (.tup (ws.map V.int)) ∧ H t2 = some (.tup (us.map V.int)) ∧ H a = some (.lst xs) ∧ ws.length ≤ 900 ∧ (∀ u ∈ us, u ≤ 900) ∧ Pairs H xs wy ∧ WayOk ws us wy ∧ ∀ b H', Same H H' → Way H' b wy → Q (.ref b) H'
/-- of any list -/
def spRead (C : Addr) : Sp := fun vs H Q E => ∃ (N : Addr → Prop) (t1 t2 a : Addr) (ws us : List Int) (xs : List V) (ds : List PyData), vs = [.ref t1, .ref t2, .ref a] ∧ H t1 = some (.tup (ws.map V.int)) ∧ H t2 = some (.tup (us.map V.int)) ∧ H a = some (.lst xs) ∧ ws.length ≤ 900 ∧ (∀ u ∈ us, u ≤ 900) ∧ DqAll N H xs ds ∧ (isWayD ws us (.tuple ds) = false → ∀ H', Same H H' → E (.ref C) none H') ∧ (isWayD ws us (.tuple ds) = true → ∀ b H', Same H H' → H' b = some (.tup xs) → Q (.ref b) H')
theorem pickV_comp {xs : List V} {q r : List Int} (hq : Below (xs.length : Int) q) (hr : Below (q.length : Int) r) : pickV (pickV xs q) r = pickV xs (r.map (pick q)) := by
  unfold pickV
  rw [List.map_map]
  refine List.map_congr_left fun y hy => ?_
  obtain ⟨y0, y1⟩ := hr y hy
  have hl : y.toNat < q.length := by omega
  show (q.map fun z => xs.getD z.toNat .non).getD y.toNat .non = xs.getD (q.getD y.toNat 0).toNat .non
  rw [List.getD_eq_getElem?_getD, List.getElem?_map, List.getElem?_eq_getElem hl, List.getD_eq_getElem?_getD (l := q), List.getElem?_eq_getElem hl]
  rfl
theorem eqv_ints0 : ∀ ws : List Int, PyData.eqv (.tuple (ws.map PyData.int)) (.tuple []) = ws.isEmpty
  | [] => by simp [PyData.eqv, PyData.eqvAll]
  | n :: r => by simp [PyData.eqv, PyData.eqvAll]
theorem shaped_crate (ws : List Int) : SeqAt.shaped (.tuple (ws.map PyData.int)) = true := (flat_tup (n := 0) (flatL_ints ws)).shaped (by decide)
theorem dp_crate {K : PySem.W.Frag} {H : Hp} {t : Addr} {ws : List Int} (e : H t = some (.tup (ws.map V.int))) : Dp K H (.ref t) (.tuple (ws.map PyData.int)) := .tup (SqT.of e) (dpAll_int ws)
/-- a filling of anything, as data -/
theorem fill_same {K : PySem.W.Frag} {N : Addr → Prop} {H : Hp} {a b a' b' : Addr} {t : Int} {ys : List V} (ea : H a = some (.tup [.int t, .ref b])) (eb : H b = some (.tup ys)) (ea' : H a' = some (.tup [.int t, .ref b'])) (eb' : H b' = some (.tup ys)) (h : ∀ v ∈ ys, AnyF N 1 H v) :
    ∃ d, Dp K H (.ref a) d ∧ Dp K H (.ref a') d ∧ SeqAt.shaped d = true ∧ PyData.eqv d d = true := by
  obtain ⟨ds, hd, hf⟩ := anyF_all h
  have q : Dq N H (.ref a) (.tuple [.int t, .tuple ds]) := .tup ea (.cons (.int t) (.cons (.tup eb hd) .nil))
  have q' : Dq N H (.ref a') (.tuple [.int t, .tuple ds]) := .tup ea' (.cons (.int t) (.cons (.tup eb' hd) .nil))
  refine ⟨_, q.dp, q'.dp, ?_, q.eqv_refl⟩
  exact (flat_tup (n := 2) (flatL_cons (flat_int t) (flatL_cons (flat_tup (n := 1) hf) flatL_nil))).shaped (by decide)
/-- things drawn into the list D -/
theorem told3 {p l D : Addr} {H : Hp} {xs : List V} (S : Sc p l H) (e : H D = some (.lst xs)) : Told (fun c => c = p ∨ c = l ∨ c = D) H := by
  obtain ⟨_, ns, a, b, e1, e2, _⟩ := S
  intro c hc h
  rcases hc with rfl | rfl | rfl
  · rw [e1] at h
    cases h
  · rw [e2] at h
    cases h
  · rw [e] at h
    cases h
theorem flat_ints (as : List Int) : (as.map V.int).all flatV = true := by
  rw [List.all_map]
  exact List.all_eq_true.mpr fun _ _ => rfl
theorem inV_ints (y : Int) (as : List Int) : inV (.int y) (as.map V.int) = decide (y ∈ as) := by
  unfold inV
  rw [List.any_map]
  by_cases h : y ∈ as
  · rw [decide_eq_true h]
    exact List.any_eq_true.mpr ⟨y, h, by show (y == y) = true; simp⟩
  · rw [decide_eq_false h]
    refine List.any_eq_false.mpr fun z hz => ?_
    show ¬ (z == y) = true
    intro e
    exact h (eq_of_beq e ▸ hz)
/-- things put in for numbers -/
def spExch : Sp := fun vs H Q _ => ∃ (f b D : Addr) (t : Int) (as : List Int) (xs : List V), vs = [.ref f, .ref D] ∧ H f = some (.tup [.int t, .ref b]) ∧ H b = some (.tup (as.map V.int)) ∧ H D = some (.lst xs) ∧ Below (xs.length : Int) as ∧ as.length ≤ 900 ∧ ∀ a c H', Same H H' → H' a = some (.tup [.int t, .ref c]) → H' c = some (.tup (pickV xs as)) → Q (.ref a) H'
/-- whole numbers that rise within as many places -/
theorem rising_eq : ∀ (l : List Int) (lo : Int), l.Pairwise (· < ·) → (∀ x ∈ l, lo ≤ x ∧ x < lo + (l.length : Int)) → ∀ (j : Nat) (x : Int), l[j]? = some x → x = lo + (j : Int)
  | [], _, _, _, j, x, h => by simp at h
  | y :: r, lo, hp, hb, j, x, h => by
    rw [List.pairwise_cons] at hp
    have hy := hb y List.mem_cons_self
    have hl : (((y :: r).length : Nat) : Int) = (r.length : Int) + 1 := by simp
    have ih := rising_eq r (lo + 1) hp.2 fun z hz => by
      have h1 := hp.1 z hz
      have h2 := hb z (List.mem_cons_of_mem _ hz)
      omega
    have ey : y = lo := by
      cases r with
      | nil =>
        have : ((([y] : List Int).length : Nat) : Int) = 1 := rfl
        omega
      | cons z r' =>
        have h1 := ih 0 z rfl
        have h2 := hp.1 z List.mem_cons_self
        omega
    cases j with
    | zero =>
      cases h
      rw [ey]
      simp
    | succ j =>
      have := ih j x h
      omega
theorem fills_num {n : Nat} {us : List Int} (hu : ∀ x ∈ us, 0 ≤ x ∧ x ≤ 12) {j : Nat} {p : Int × List Int} (h : (fills n us us.length)[j]? = some p) : FillOk (n : Int) us p ∧ fnum (n : Int) us p = (j : Int) := by
  have fok : ∀ q ∈ fills n us us.length, FillOk (n : Int) us q := fun q hq => fills_mem (Nat.le_refl _) hu hq
  refine ⟨fok p (List.mem_of_getElem? h), ?_⟩
  have hl := fills_len (n := n) (ws := us) (i := us.length) (Nat.le_refl _)
  rw [List.take_length] at hl
  have hs := fills_sorted n us us.length
  have hp : ((fills n us us.length).map (fnum (n : Int) us)).Pairwise (· < ·) := by
    rw [List.pairwise_map]
    refine hs.imp_of_mem fun {a b} ha hb hab => ?_
    exact fnum_lt (by omega) (fok a ha) (fok b hb) hab
  have := rising_eq _ 0 hp (fun x hx => by
    obtain ⟨q, hq, rfl⟩ := List.mem_map.mp hx
    have := fnum_bound (n := (n : Int)) (by omega) (fok q hq)
    rw [List.length_map]
    omega) j (fnum (n : Int) us p) (by rw [List.getElem?_map, h]; rfl)
  omega
theorem one_way {n : Int} {us : List Int} {p : Int × List Int} (h : FillOk n us p) : WayOk [n] us [p] := wayOk_cons.mpr ⟨h, ⟨rfl, fun i p x h1 _ => by simp at h1⟩⟩
theorem one_num (n : Int) (us : List Int) (p : Int × List Int) : wnum us [n] [p] = fnum n us p := by
  show fnum n us p * 1 + 0 = _
  omega
theorem one_many (n : Int) (us : List Int) : manyW us [n] = cnt n us := by
  show cnt n us * 1 = _
  omega
theorem one_pairs {H : Hp} {a b : Addr} {p : Int × List Int} (e : H a = some (.tup [.int p.1, .ref b])) (e2 : H b = some (.tup (p.2.map V.int))) : Pairs H [.ref a] [p] := ⟨rfl, fun i x q h1 h2 => by
  cases i with
  | zero =>
    cases h1
    cases h2
    exact ⟨a, b, rfl, e, e2⟩
  | succ i => simp at h1⟩
theorem cnt4 {n : Int} {us : List Int} (n0 : 0 ≤ n) (n1 : n ≤ 4) (hu : ∀ x ∈ us, 0 ≤ x ∧ x ≤ 3) (hl : us.length ≤ 4) : cnt n us ≤ 256 := by
  have key : ∀ (us : List Int), (∀ x ∈ us, 0 ≤ x ∧ x ≤ 3) → cnt n us ≤ 64 * (us.length : Int) := by
    intro us
    induction us with
    | nil => intro _; exact Int.le_refl 0
    | cons x r ih =>
      intro h
      have h1 := ih fun y hy => h y (List.mem_cons_of_mem _ hy)
      have hx := h x List.mem_cons_self
      have e : cnt n (x :: r) = n ^ x.toNat + cnt n r := by
        unfold cnt
        simp
      have hp : n ^ x.toNat ≤ 64 := by
        have : x.toNat ≤ 3 := by omega
        have h3 : x.toNat = 0 ∨ x.toNat = 1 ∨ x.toNat = 2 ∨ x.toNat = 3 := by omega
        have hn : n = 0 ∨ n = 1 ∨ n = 2 ∨ n = 3 ∨ n = 4 := by omega
        rcases h3 with h | h | h | h <;> rcases hn with h' | h' | h' | h' | h' <;> rw [h, h'] <;> decide
      rw [e, List.length_cons]
      push_cast
      omega
  have := key us hu
  omega
theorem pickV_plain {n : Int} {r : List Int} (h : Below n r) (h0 : 0 ≤ n) : pickV ((iota n).map V.int) r = r.map V.int := by
  rw [pickV_ints (by rw [iota_len]; intro y hy; have := h y hy; omega)]
  congr 1
  refine (List.map_congr_left fun y hy => ?_).trans (List.map_id _)
  exact pick_iota (h y hy).1 (h y hy).2
/-! ### an error that a suite gives to a name, for later -/
def ExK (cls : Value) (d : Option Addr) (a : Addr) : HO := .ext fun h => ∃ (oe : Obj) (vs : Array Value), h.get? a = some oe ∧ Zc cls d oe ∧ oe.data = .fields vs
section
variable {X : Cx} {pins : List (Addr × Obj)} {σ : L2.St} {H : Hp} {s : Shared}
theorem unsuiteP {a : Addr} {q : Addr × Obj} {pn' : List (Addr × Obj)} (I : Inv (X.suite a (q :: (X.pn ++ pins))) pn' σ H s) (ok : X.Ok) : Inv X (q :: pins) σ H s :=
  ⟨ok, I.os, I.bare, I.base, I.loc, I.cell, I.free, I.freeC, fun p hp => I.pin p (List.mem_append_left _ (by
    rcases List.mem_append.mp hp with h | h
    · exact List.mem_cons_of_mem _ (List.mem_append_left _ h)
    · rcases List.mem_cons.mp h with h | h
      · rw [h]; exact List.mem_cons_self
      · exact List.mem_cons_of_mem _ (List.mem_append_right _ h))), I.hok, I.len⟩
/-- the pinned error is tracked from now on -/
theorem trackE {a : Addr} {oe : Obj} {cls : Value} {d : Option Addr} {vs : Array Value} (I : Inv X ((a, oe) :: pins) σ H s) (hz : Zc cls d oe) (hd : oe.data = .fields vs) (h0 : X.s_0.heap.get? a = none) (np : ∀ p ∈ X.pn ++ pins, p.1 ≠ a) : H a = none ∧ Inv X pins σ (upd H a (ExK cls d a)) s := by
  obtain ⟨hget, hn, nL, nF, nc⟩ := I.pin (a, oe) (List.mem_append_right _ List.mem_cons_self)
  refine ⟨hn, ⟨I.ok, I.os, I.bare, ⟨I.base.keep, I.base.slot, fun b o e n hx => ?_, I.base.there, fun b xs e => ?_, fun b o u e => ?_, fun b ps e => ?_⟩, I.loc, I.cell, ?_, fun x c e => ?_, fun p hp => ?_, fun b o e => ?_, I.len⟩⟩
  · have nb : b ≠ a := fun z => by rw [z, h0] at e; cases e
    rw [upd_ne nb]
    exact I.base.free b o e n hx
  · have q := I.base.tups b xs e
    rw [upd_ne (ne_of_none q hn)]
    exact q
  · have q := I.base.frzs b o u e
    rw [upd_ne (ne_of_none q hn)]
    exact q
  · obtain ⟨more, q⟩ := I.base.tbls b ps e
    exact ⟨more, by rw [upd_ne (ne_of_none q hn)]; exact q⟩
  · rw [upd_ne (Ne.symm nL)]
    exact I.free
  · have ne : c ≠ a := fun z => by
      obtain ⟨v, o', ho, hc⟩ := I.cell x c e
      rw [z, hget] at ho
      cases ho
      exact nc _ hc
    rw [upd_ne ne]
    exact I.freeC x c e
  · obtain ⟨q1, q2, q3⟩ := I.pin p (by
      rcases List.mem_append.mp hp with h | h
      · exact List.mem_append_left _ h
      · exact List.mem_append_right _ (List.mem_cons_of_mem _ h))
    exact ⟨q1, by rw [upd_ne (np p hp)]; exact q2, q3⟩
  · by_cases hb : b = a
    · subst hb
      rw [upd_same] at e
      cases e
      exact ⟨⟨oe, vs, hget, hz, hd⟩, ⟨oe, hget⟩, fun _ _ ⟨o', v', q, r⟩ k => ⟨o', v', k o' q, r⟩⟩
    · rw [upd_ne hb] at e
      exact (I.hok b o e).stay (fun c v _ q => q) (fun c q => by rw [upd_ne (ne_of_none q hn)]; exact q) fun c xs q => by rw [upd_ne (ne_of_none q hn)]; exact q
end
/-- what 'except x as n: suite' wishes of an error of the body, the suite's error kept -/
def wKp (K : PySem.W.Frag) (c : Value) (i : Nat) (ts : Addr → Value → Option Addr → TS) (D : Ends) : WX := fun cls d σ H =>
  PySem.W.exmOne K cls c = some true ∧ ∀ a, H a = none → ts a cls d { nx := fun σ' H' => H' a = none → D.nx (σ'.set i none) (upd H' a (ExK cls d a)), rt := fun _ _ => False, bk := fun _ _ => False, ct := fun _ _ => False } (σ.set i (some (.ref a))) H
section
variable {X : Cx} {x n : Str} {c : Value} {i : Nat} {body suite : List Stmt} {b₀ : Stmt} {np pos pos' : Pos} {tb : WX → TS} {ts : Addr → Value → Option Addr → TS}
set_option maxHeartbeats 2000000 in
theorem ps_try_kp (hs : X.stack = X.env :: X.outer) (hf : X.env.frame = some X.env.locals) (hN : X.N.Nodup) (hi : X.N[i]? = some n) (hln : X.env.kindOf n = some .local) (hex : X.ex = []) (hc : Names X x c)
    (hb : ∀ (W : WX) (pn : List (Addr × Obj)) (xe : Value → Shared → Prop), Takes (X.tr pn xe) W → PassesOwn (model X.prog X.w) X.A X.env xe → PSs (X.tr pn xe) body (tb W))
    (hsu : ∀ (a : Addr) (oe : Obj) (cls : Value) (d : Option Addr) (pn : List (Addr × Obj)), Zc cls d oe → (∃ vs, oe.data = .fields vs) → PSs (X.suite a ((a, oe) :: pn)) (b₀ :: suite) (ts a cls d)) :
    PS X (.Try body [.ExceptHandler (some (.Name x np)) (some n) (b₀ :: suite) pos'] [] [] pos) (fun D σ H => tb (wKp X.K c i ts D) D σ H) := by
  refine ⟨fun pins s σ H D I h => ?_⟩
  have ok := I.ok
  have hfr : X.A.frames = some (X.env :: X.outer) := by rw [ok.frames, hs]
  have hloc : Loc X.env.scope n := .inl hln
  refine wpAny_Try_except (wpAny_mono ((hb (wKp X.K c i ts D) (X.pn ++ pins) (fun e s₁ => wpAny (model X.prog X.w) X.A (noteFrame e X.env) (fun _ s₂ => wpAny (model X.prog X.w) X.A (setFlight e none) (fun _ s₃ =>
    wpAny (model X.prog X.w) X.A (handleBy e X.env [.ExceptHandler (some (.Name x np)) (some n) (b₀ :: suite) pos']) (SP X pins D) X.xe s₃) X.xe s₂) X.xe s₁) (fun u s' xx => ?_) PassesOwn.looking).run [] s σ H D (I.toTry _) h) (fun f s1 hsp => ?_) (fun e s1 he => he))
  · obtain ⟨a, B, sI, pins', σ', H', cls, d, rfl, J', nb, up, sky, na, os, ag, hb1, hyes⟩ := xx
    have J : Inv X pins σ' H' sI := J'.ofTry ok
    have sky' : Sky B (X.env :: X.outer) a (Zc cls d) X.env.locals s'.heap := by rw [← hs]; exact sky
    show wpAny (model X.prog X.w) X.A (noteFrame (.ref a) X.env) _ _ _
    refine Sky.land Zc.steady hfr hf sky' fun h3 fl3 up3 => ?_
    have J3 : Inv X pins σ' H' { s' with heap := h3 } := J.landed nb fl3.1 (up.trans up3) os ag
    obtain ⟨oe3, vs3, he3, hz3, hd3⟩ := fl3.there
    have hBa : B.get? a = none := fl3.2.1
    have nfr : a ∉ frs (X.env :: X.outer) := fun hm => by
      obtain ⟨_, o', e', hnf⟩ := fl3.2.2.1.mem hm
      rw [he3] at e'
      cases e'
      exact hnf _ hd3
    have nst : a ∉ frs X.stack := by rw [hs]; exact nfr
    have nsI : sI.heap.get? a = none := by
      cases q : sI.heap.get? a with
      | none => rfl
      | some o =>
        have := nb a o q nst
        rw [hBa] at this
        cases this
    have ns0 : X.s_0.heap.get? a = none := by
      cases q : X.s_0.heap.get? a with
      | none => rfl
      | some o =>
        obtain ⟨o', q'⟩ := J.base.there a o q (by rw [hex]; exact List.not_mem_nil)
        rw [nsI] at q'
        cases q'
    have npin : ∀ p ∈ X.pn ++ pins, p.1 ≠ a := fun p hp z => by
      have := (J.pin p hp).1
      rw [z, nsI] at this
      cases this
    have nL : a ≠ X.env.locals := fun z => nfr (List.mem_filterMap.mpr ⟨X.env, List.mem_cons_self, by rw [hf, z]⟩)
    have nF : a ∉ X.fs := fun hm => by
      obtain ⟨e, he, q⟩ := List.mem_filterMap.mp hm
      exact nfr (List.mem_filterMap.mpr ⟨e, List.mem_cons_of_mem _ he, q⟩)
    have S3 := J3.suite he3 hd3 na nL nF
    refine wpAny_handleBy_cons (codeAny_handlers_test ?_) (by intro q; cases q)
    have LT : PySem.W.Looks (model X.prog X.w) h3 (typeOf (.ref a)) cls := fun A Q E s k q => wpAny_typeOf_ref (k _ _ he3) (by rw [hz3.1]; exact q)
    have LM := PySem.W.exm_one (M := model X.prog X.w) (J3.kIn) LT hb1
    have test : ∀ {Q : Value → Shared → Prop} {E : Value → Shared → Prop}, Q c { s' with heap := h3 } → wpAny (model X.prog X.w) (X.A.mark (some (.ref a))) (eval (.Name x np) X.env) Q E { s' with heap := h3 } := fun {Q E} q => by
      obtain ⟨hg, hdbg, hm | ⟨hm, hv, hnn⟩⟩ := hc
      · exact ld_glob (X := X.suite a ((a, oe3) :: (X.pn ++ pins))) S3 hg hm q hdbg
      · exact ld_blt (X := X.suite a ((a, oe3) :: (X.pn ++ pins))) S3 hg hm hv q hnn hdbg
    refine test (LM.here (codeAny_handlers_suite_as (HandSPX.lands_againZ fl3 fun h4 fl4 up4 => ?_)))
    have J4 : Inv X pins σ' H' { s' with heap := h4 } := J.landed nb fl4.1 ((up.trans up3).trans up4) os ag
    obtain ⟨oe4, vs4, he4, hz4, hd4⟩ := fl4.there
    have S4 := J4.suite he4 hd4 na nL nF
    refine store_ok (X := X.suite a ((a, oe4) :: (X.pn ++ pins))) (v := .ref a) S4 hN hi hloc rfl (fun s5 S5 => ?_) (.inr hln)
    refine wpAny_mono ((hsu a oe4 cls d (X.pn ++ pins) hz4 ⟨_, hd4⟩).run [] s5 _ H' _ S5 (hyes a na)) (fun f s6 hsp => ?_) (fun _ _ z => False.elim z)
    cases f with
    | next =>
      obtain ⟨σ6, H6, S6, q6⟩ := hsp
      exact gone_ok (unsuiteP S6 ok) hN hi hln fun s7 J7 => by
        obtain ⟨hn7, K7⟩ := trackE J7 hz4 hd4 ns0 npin
        exact ⟨_, _, K7, q6 hn7⟩
    | brk =>
      obtain ⟨σ6, H6, S6, q6⟩ := hsp
      exact q6.elim
    | cont =>
      obtain ⟨σ6, H6, S6, q6⟩ := hsp
      exact q6.elim
    | ret u =>
      obtain ⟨v6, σ6, H6, S6, r6, q6⟩ := hsp
      exact q6.elim
  · cases f with
    | next =>
      obtain ⟨σ', H', J', q⟩ := hsp
      exact wpAny_execs_nil ⟨σ', H', J'.ofTry ok, q⟩
    | brk =>
      obtain ⟨σ', H', J', q⟩ := hsp
      exact ⟨σ', H', J'.ofTry ok, q⟩
    | cont =>
      obtain ⟨σ', H', J', q⟩ := hsp
      exact ⟨σ', H', J'.ofTry ok, q⟩
    | ret u =>
      obtain ⟨v, σ', H', J', r, q⟩ := hsp
      exact ⟨v, σ', H', J'.ofTry ok, r, q⟩
end
/-! ### isinstance of a kept error -/
def rIsK (K : PySem.W.Frag) (D : Addr) : List V → Hp → VK → Prop := fun xs H Q => ∃ (a : Addr) (c : V) (cv : Value) (b : Bool), xs = [.ref a, c] ∧ H a = some (ExK (.ref D) none a) ∧ (∀ u, RelV c u → u = cv) ∧ PySem.W.kitOne K (.ref D) cv = some b ∧ Q (.bl b) H
theorem inst_k {X : Cx} {pins : List (Addr × Obj)} {σ : L2.St} {H : Hp} {s : Shared} {a D : Addr} (I : Inv X pins σ H s) (e : H a = some (ExK (.ref D) none a)) : ∃ oe, PySem.W.InstAt s.heap a oe D none := by
  obtain ⟨⟨oe, vs, hget, hz, hv⟩, _⟩ := (show ObjOk X.prog X.w H s.heap a (ExK (.ref D) none a) from I.hok a _ e)
  refine ⟨oe, ?_⟩
  obtain ⟨oc, od, oda, osl⟩ := oe
  obtain ⟨h1, h2⟩ := hz
  dsimp only at h1 h2 hv
  subst h1 h2 hv
  exact ⟨hget, rfl, rfl, trivial⟩
theorem call_isK {X : Cx} {D : Addr} (C : ExcC X.K D) : CallR X (.builtin "isinstance") (rIsK X.K D) := by
  intro pins s σ H xs us Q I r h
  obtain ⟨a, c, cv, b, rfl, hH, hcv, e, q⟩ := h
  obtain ⟨u1, u2, rfl, r1, r2⟩ := vals2 r
  cases (show u1 = Value.ref a from r1)
  have ec := hcv _ r2
  subst ec
  obtain ⟨oe, J⟩ := inst_k I hH
  exact PySem.W.kia_one (PySem.W.handS_kitx_exc C.hg C.hk C.hs C.hd C.ha C.hn C.ht C.hm) I.kIn J e (fun z => nomatch z) fun tk => ⟨.bl b, H, I.kept (t' := tk) fun _ _ z => z, rfl, q⟩
def rIsKT (K : PySem.W.Frag) (D : Addr) : List V → Hp → VK → Prop := fun xs H Q => ∃ (a tp : Addr) (cs : List V) (us : List Value) (b : Bool), xs = [.ref a, .ref tp] ∧ H a = some (ExK (.ref D) none a) ∧ H tp = some (.tup cs) ∧ Paired ClsV cs us ∧ PySem.W.kitAny K (.ref D) us = some b ∧ Q (.bl b) H
theorem call_isKT {X : Cx} {D : Addr} (C : ExcC X.K D) : CallR X (.builtin "isinstance") (rIsKT X.K D) := by
  intro pins s σ H xs us Q I r h
  obtain ⟨a, tp, cs, ws, b, rfl, hH, hT, k, e, q⟩ := h
  obtain ⟨u1, u2, rfl, r1, r2⟩ := vals2 r
  cases (show u1 = Value.ref a from r1)
  cases (show u2 = Value.ref tp from r2)
  obtain ⟨oe, J⟩ := inst_k I hH
  obtain ⟨_, its, rv, o, h1, h2, n, h3⟩ := (show ObjOk X.prog X.w H s.heap tp (.tup cs) from I.hok tp _ hT)
  have e3 := ClsV.all k rv
  subst e3
  obtain ⟨oc, od, dt, sl⟩ := o
  simp only at h2 h3
  subst h2 h3
  exact PySem.W.kia_tup (PySem.W.handS_kitx_exc C.hg C.hk C.hs C.hd C.ha C.hn C.ht C.hm) I.kIn J h1 e (fun z => nomatch z) fun tk => ⟨.bl b, H, I.kept (t' := tk) fun _ _ z => z, rfl, q⟩
/-! ### zip of a tuple and a list -/
theorem sep_apart {z TI TO i1 i2 a b : Addr} (D : ZipApart z TI TO i1 i2 a b) : ZipSep2 z TI TO i1 i2 [i1, a] [i2, b] where
  TIz := D.TIz
  TOz := D.TOz
  TITO := D.TITO
  TIi1 := D.TIi1
  mem1 := by simp
  zf1 := by simp only [List.mem_cons, List.not_mem_nil, or_false, not_or]; exact ⟨D.i1z.symm, D.l1z.symm⟩
  Tf1 := by simp only [List.mem_cons, List.not_mem_nil, or_false, not_or]; exact ⟨D.TOi1, D.l1TO.symm⟩
  TIi2 := D.TIi2
  mem2 := by simp
  zf2 := by simp only [List.mem_cons, List.not_mem_nil, or_false, not_or]; exact ⟨D.i2z.symm, D.l2z.symm⟩
  Tf2 := by simp only [List.mem_cons, List.not_mem_nil, or_false, not_or]; exact ⟨D.TOi2, D.l2TO.symm⟩
  sep1_2 := by simp only [List.mem_cons, List.not_mem_nil, or_false, not_or]; exact ⟨D.i12, D.l2i1.symm⟩
  sep2_1 := by simp only [List.mem_cons, List.not_mem_nil, or_false, not_or]; exact ⟨D.i12.symm, D.l1i2.symm⟩
def ItzTL (K : PySem.W.Frag) (a b : Addr) : It :=
  ⟨fun i H => ∃ (xs ys : List V) (x y : V), SqT K H a xs ∧ SqL K H b ys ∧ xs[i]? = some x ∧ ys[i]? = some y,
    fun i H v H' => ∃ T x y, v = .ref T ∧ H T = none ∧ H' = upd H T (.tup [x, y]) ∧ (∀ xs, SqT K H a xs → xs[i]? = some x) ∧ ∀ ys, SqL K H b ys → ys[i]? = some y,
    fun i H => ∃ xs ys : List V, SqT K H a xs ∧ SqL K H b ys ∧ i ≤ xs.length ∧ i ≤ ys.length ∧ (xs.length = i ∨ ys.length = i)⟩
/-- the five cells of a zip -/
def Five (z TI TO i1 i2 c : Addr) : Prop := c ∈ [z, TI, TO, i1, i2]
theorem five_all {z TI TO i1 i2 : Addr} {R : Addr → Prop} (h1 : R z) (h2 : R TI) (h3 : R TO) (h4 : R i1) (h5 : R i2) : ∀ c ∈ [z, TI, TO, i1, i2], R c := by
  simp only [List.forall_mem_cons]
  exact ⟨h1, h2, h3, h4, h5, fun _ h => absurd h List.not_mem_nil⟩
theorem five_ne {z TI TO i1 i2 c : Addr} (h : c ∉ [z, TI, TO, i1, i2]) : c ≠ z ∧ c ≠ TO ∧ c ≠ i1 ∧ c ≠ i2 := by
  simp only [List.mem_cons, List.not_mem_nil, or_false, not_or] at h
  exact ⟨h.1, h.2.2.1, h.2.2.2.1, h.2.2.2.2⟩
/-- how a zip of a tuple and a list stands ahead of its turn i -/
structure Stands (z TI TO i1 i2 a b : Addr) (i : Nat) (h : Heap) : Prop where
  zip : IsZip h z TI TO .none
  ins : IsPair h TI (.ref i1) (.ref i2)
  outs : ∃ x y, IsPair h TO x y
  one : h.IsTupleIter i1 a i
  two : h.IsListIter i2 b i
theorem Stands.lt {z TI TO i1 i2 a b : Addr} {i : Nat} {h : Heap} (t : Stands z TI TO i1 i2 a b i h) : ∀ c ∈ [z, TI, TO, i1, i2], c < h.objs.size :=
  five_all (Heap.lt_size t.zip) (Heap.lt_size t.ins) (let ⟨_, _, e⟩ := t.outs; Heap.lt_size e) (let ⟨_, e, _⟩ := t.one; Heap.lt_size e) (let ⟨_, e, _⟩ := t.two; Heap.lt_size e)
/-- zip of a tuple and a list: each turn a new pair -/
theorem turn_zipTL {P : Program} {w : World} {K : PySem.W.Frag} {elts : List Expr} {kk : Nat} {tpos : Pos} {a b z TI TO i1 i2 : Addr} (D : ZipApart z TI TO i1 i2 a b) :
    Turn P w K (.Tuple elts kk tpos) (ItzTL K a b) [z, TI, TO, i1, i2] z (Stands z TI TO i1 i2 a b) := by
  refine ⟨List.mem_cons_self, fun i h t => five_all ⟨_, t.zip, nofun⟩ ⟨_, t.ins, nofun⟩ ?_ ?_ ?_, fun i h h' t k => ?_, ?_, ?_, fun A i s Q E t => wpAny_pyIter_zip t.zip⟩
  · obtain ⟨_, _, e⟩ := t.outs
    exact ⟨_, e, nofun⟩
  · obtain ⟨o, e, _, d⟩ := t.one
    exact ⟨o, e, by rw [d]; exact nofun⟩
  · obtain ⟨o, e, _, d⟩ := t.two
    exact ⟨o, e, by rw [d]; exact nofun⟩
  · have kc : ∀ c, c ∈ [z, TI, TO, i1, i2] → ∀ o, h.get? c = some o → h'.get? c = some o := k
    obtain ⟨u, v, e⟩ := t.outs
    exact ⟨kc z (by simp) _ t.zip, kc TI (by simp) _ t.ins, ⟨u, v, kc TO (by simp) _ e⟩, t.one.at (kc i1 (by simp)), t.two.at (kc i2 (by simp))⟩
  · rintro X rfl rfl rfl hc i pins s σ H E I hf t ⟨xs, ys, x, y, hqx, hqy, hx, hy⟩
    obtain ⟨us, rv, p, _⟩ := I.tuple hqx
    obtain ⟨vs, rv', p', _⟩ := I.list hqy
    obtain ⟨u, hu, ru⟩ := rv.get hx
    obtain ⟨v, hv, rv0⟩ := rv'.get hy
    obtain ⟨_, _, hO⟩ := t.outs
    have b1 : i < us.toArray.size := by rw [List.size_toArray]; exact (List.getElem?_eq_some_iff.mp hu).1
    have b2 : i < vs.toArray.size := by rw [List.size_toArray]; exact (List.getElem?_eq_some_iff.mp hv).1
    have nz : s.heap.objs.size ≠ z := Nat.ne_of_gt (Heap.lt_size t.zip)
    refine wpAny_pyNext_zipD2_item (sep_apart D) (Draws.tuple (A := X.A.in1) (I.ok.hd hc) i1 a D.l1i1 us.toArray) (Draws.list (A := X.A.in1) (I.ok.hd hc) i2 b D.l2i2 vs.toArray) t.zip t.ins hO ⟨t.one, p⟩ ⟨t.two, p'.isList⟩ b1 b2 fun u' v' g tk eu ev gz gO g1 g2 gT _ gk => ⟨_, rfl, ?_⟩
    obtain rfl : u = u' := Option.some.inj ((show us.toArray[i]? = some u by simpa using hu).symm.trans eu)
    obtain rfl : v = v' := Option.some.inj ((show vs.toArray[i]? = some v by simpa using hv).symm.trans ev)
    refine wpAny_letOwnedTupleGo_zip (s := { s with heap := g, toks := tk }) gz fun g' gz' sb => ?_
    have at' : ∀ {c o}, c ≠ z → g.get? c = some o → g'.get? c = some o := fun n e => (sb.2 _ n).trans e
    have J := I.turnedNew (t' := tk) (ch := [z, TI, TO, i1, i2]) (h' := g') (T := s.heap.objs.size) (ob := .tup [x, y]) (fun c o n e => at' (five_ne n).1 (gk c o (five_ne n).1 (five_ne n).2.1 (five_ne n).2.2.1 (five_ne n).2.2.2 e)) hf (Nat.le_refl _) ⟨by show 2 ≤ sizeLine; decide, [u, v], .cons ru (.cons rv0 .nil), ⟨_, at' nz gT, rfl, _, rfl⟩⟩
    refine ⟨.ref s.heap.objs.size, _, J, rfl, ⟨_, x, y, rfl, I.hok.fresh (Nat.le_refl _), rfl, fun l hl => (I.tuple_inj hl hqx).symm ▸ hx, fun l hl => (I.list_inj hl hqy).symm ▸ hy⟩, ⟨gz', at' D.TIz (gk _ _ D.TIz D.TITO D.TIi1 D.TIi2 t.ins), ⟨u, v, at' D.TOz gO⟩, g1.1.at fun _ => at' D.i1z, g2.1.at fun _ => at' D.i2z⟩, fun c hm => ?_⟩
    rw [upd_ne (Nat.ne_of_lt (t.lt c hm))]
    exact (hf c hm).1
  · rintro X rfl rfl rfl hc i pins s σ H E I hf t ⟨xs, ys, hqx, hqy, le1, le2, hend⟩
    obtain ⟨us, rv, p, _⟩ := I.tuple hqx
    obtain ⟨vs, rv', p', _⟩ := I.list hqy
    have l1 := rv.length
    have l2 := rv'.length
    obtain ⟨_, _, hO⟩ := t.outs
    refine wpAny_pyNext_zipD2_end (i := i) (sep_apart D) (Draws.tuple (A := X.A.in1) (I.ok.hd hc) i1 a D.l1i1 us.toArray) (Draws.list (A := X.A.in1) (I.ok.hd hc) i2 b D.l2i2 vs.toArray) t.zip t.ins hO ⟨t.one, p⟩ ⟨t.two, p'.isList⟩ (by rw [List.size_toArray]; omega) (by rw [List.size_toArray]; omega) (by rw [List.size_toArray, List.size_toArray]; omega) fun g tk gk => ⟨rfl, ?_⟩
    exact I.turnedL (t' := tk) (ch := [z, TI, TO, i1, i2]) (fun c o n e => gk c o (five_ne n).1 (five_ne n).2.1 (five_ne n).2.2.1 (five_ne n).2.2.2 e) hf
/-- for .. in zip(t, l) -/
def iZipTL (K : PySem.W.Frag) (ta : TA) : TI := fun σ H R => ta σ H fun vs H1 => ∃ a b xs ys, vs = [.ref a, .ref b] ∧ SqT K H1 a xs ∧ SqL K H1 b ys ∧ R (ItzTL K a b) H1
theorem pi_zipTL {X : Cx} {e e2 : Expr} {ta : TA} {p pos tpos : Pos} {elts : List Expr} {kk : Nat} (hg : Gl X "zip") (hm : X.mg "zip" = none) (ha : PA X [e, e2] ta)
    (hs : starEach [e, e2] X.env = (false, eval e X.env) :: starEach [e2] X.env := by rfl) (hpl : (backTo pos (starEach [e2] X.env)).any (·.1) = false := by rfl) :
    PI X (.Tuple elts kk tpos) (.Call (.Name "zip" p) [e, e2] [] pos) (iZipTL X.K ta) := by
  constructor
  intro pins s σ H R I h
  refine Call_ (ld_blt I hg hm PyProof.Rows.boot_zip (PyProof.Rows.callWith_type1 (thn (ha.run pos pins s σ H _ I h) ?_) hs hpl))
  rintro us s1 ⟨vs, H1, I1, r1, a, b, xs, ys, rfl, hqx, hqy, q⟩
  obtain ⟨us, rv, p1, _⟩ := I1.tuple hqx
  obtain ⟨vs, rv', p2, _⟩ := I1.list hqy
  rcases r1 with _ | ⟨ra, _ | ⟨rb, _ | _⟩⟩
  cases ra
  cases rb
  have new : ∀ k, FpOk X pins H1 (s1.heap.objs.size + k) := fun k => I1.fpOk (Nat.le_add_right _ _) (I1.hok.fresh (Nat.le_add_right _ _))
  have la : a < s1.heap.objs.size := let ⟨_, e, _⟩ := p1; Heap.lt_size e
  refine zip_begins2 (begins_tuple a us.toArray) (begins_list b vs.toArray) p1 p2.isList fun g gz gI gO g1 g2 _ gk => wpAny_pyIter_zip gz ?_
  exact ⟨_, _, _, _, H1, rfl, I1.kept (t' := s1.toks) gk, turn_zipTL (PySem.W.ktu_apart s1.heap.objs.size a b la p2.lt), ⟨gz, gI, ⟨_, _, gO⟩, ⟨_, g1, rfl, rfl⟩, ⟨_, g2, rfl, rfl⟩⟩, five_all (new 4) (new 2) (new 3) (new 0) (new 1), q⟩
/-- a loop of n turns, over whatever goes on n times -/
theorem for_turns {J : It} {n : Nat} {g : TG} {tb : TS} {D : Ends} {σ : L2.St} {H : Hp} (Pv : Nat → L2.St → Hp → Prop) (h0 : Pv 0 σ H) (hg : ∀ i σ H, i < n → Pv i σ H → J.go i H) (he : ∀ σ H, Pv n σ H → J.stop n H ∧ D.nx σ H)
    (hs : ∀ i σ H v H', i < n → Pv i σ H → J.yld i H v H' → g v σ H' fun σ2 H2 => tb { D with nx := Pv (i + 1), ct := Pv (i + 1), bk := D.nx } σ2 H2) :
    ∃ W : Nat → Nat → L2.St → Hp → Prop, (∃ m, W 0 m σ H) ∧ ∀ i m σ H, W i m σ H →
      (J.stop i H ∧ D.nx σ H) ∨ (J.go i H ∧ ∃ N : L2.St → Hp → Prop, (∀ σ' H', N σ' H' → ∃ m', m' < m ∧ W (i + 1) m' σ' H') ∧ ∀ v H', J.yld i H v H' → g v σ H' fun σ2 H2 => tb { D with nx := N, ct := N, bk := D.nx } σ2 H2) := by
  refine ⟨fun i m σ H => i + m = n ∧ Pv i σ H, ⟨n, Nat.zero_add n, h0⟩, fun i m σ H ⟨e, p⟩ => ?_⟩
  match m, e with
  | 0, e =>
    obtain rfl : i = n := e
    exact .inl (he σ H p)
  | m + 1, e =>
    have hi : i < n := by omega
    exact .inr ⟨hg i σ H hi p, Pv (i + 1), fun σ' H' p' => ⟨m, Nat.lt_succ_self m, by omega, p'⟩, fun v H' y => hs i σ H v H' hi p y⟩
/-- over zip of a tuple and a list of one length -/
theorem for_zipTL {K : PySem.W.Frag} {a b : Addr} {xs ys : List V} {g : TG} {tb : TS} {D : Ends} {σ : L2.St} {H : Hp} (hl : xs.length = ys.length) (Pv : Nat → L2.St → Hp → Prop) (h0 : Pv 0 σ H) (hq : ∀ i σ H, Pv i σ H → SqT K H a xs ∧ SqL K H b ys)
    (hs : ∀ (i : Nat) (x y : V) (T : Addr) (σ : L2.St) (H : Hp), xs[i]? = some x → ys[i]? = some y → Pv i σ H → H T = none → g (.ref T) σ (upd H T (.tup [x, y])) fun σ2 H2 => tb { D with nx := Pv (i + 1), ct := Pv (i + 1), bk := D.nx } σ2 H2) (hd : ∀ σ H, Pv xs.length σ H → D.nx σ H) :
    ∃ W : Nat → Nat → L2.St → Hp → Prop, (∃ m, W 0 m σ H) ∧ ∀ i m σ H, W i m σ H →
      ((ItzTL K a b).stop i H ∧ D.nx σ H) ∨ ((ItzTL K a b).go i H ∧ ∃ N : L2.St → Hp → Prop, (∀ σ' H', N σ' H' → ∃ m', m' < m ∧ W (i + 1) m' σ' H') ∧ ∀ v H', (ItzTL K a b).yld i H v H' → g v σ H' fun σ2 H2 => tb { D with nx := N, ct := N, bk := D.nx } σ2 H2) :=
  for_turns (J := ItzTL K a b) Pv h0 (fun i σ H hi p => ⟨xs, ys, xs[i], ys[i], (hq i σ H p).1, (hq i σ H p).2, List.getElem?_eq_getElem hi, List.getElem?_eq_getElem (by omega)⟩)
    (fun σ H p => ⟨⟨xs, ys, (hq _ σ H p).1, (hq _ σ H p).2, Nat.le_refl _, by omega, .inl rfl⟩, hd σ H p⟩)
    fun i σ H v H' _ p ⟨T, x, y, ev, hT, eH, f1, f2⟩ => by
      subst ev eH
      exact hs i x y T σ H (f1 xs (hq i σ H p).1) (f2 ys (hq i σ H p).2) p hT
open Sem (wp)
/-! ### enumerate(zip(a, b)): the zip's pair stays out from one turn to the next -/
/-- a zip, its pair out or not -/
abbrev ZR (h : Heap) (z TI TO : Addr) (v : Value) (fl : Bool) : Prop := h.get? z = some { cls := .type "zip", dict := none, data := .fields #[v, .bool fl, .bool false, .ref TI, .ref TO], slots := #[] }
def OutV (v : Value) : Prop := v = .none ∨ ∃ T : Addr, v = rawInt T
section
variable {prog : Program} {w : World} {A : Around} {E : Value → Shared → Prop} {s : Shared} {z TI TO i1 i2 : Addr} {fp1 fp2 : List Addr} {n1 n2 i : Nat} {P1 P2 : Nat → Value → Prop} {St1 St2 : Nat → Heap → Prop} {a1 a2 v : Value} {fl : Bool}
theorem zz_alive {a : Addr} {Q : Option Obj → Shared → Prop} (h : Q (s.heap.get? a) s) : wpAny (model prog w) A (loadIfAlive a) Q E s := fun _ _ _ => h
theorem zz_free {Q : Bool → Shared → Prop} (hZ : ZR s.heap z TI TO v fl) (hv : OutV v) (yes : Q true s) (no : ∀ h', ZR h' z TI TO v true → Heap.SameBut z s.heap h' → Q false { s with heap := h' }) : wpAny (model prog w) A (Builtin.SmallTypes.ownedTupleIsFree (.ref z)) Q E s := by
  unfold Builtin.SmallTypes.ownedTupleIsFree
  rcases hv with rfl | ⟨T, rfl⟩
  · exact wpAny_bind (wpAny_field hZ rfl (x := .none) rfl (wpAny_pure yes))
  · refine wpAny_bind (wpAny_field hZ rfl (x := rawInt T) rfl ?_)
    show wpAny _ _ (loadIfAlive ((T : Int).toNat) >>= _) _ _ s
    rw [Int.toNat_natCast]
    refine wpAny_bind (zz_alive ?_)
    cases s.heap.get? T with
    | none => exact wpAny_pure yes
    | some o =>
      refine wpAny_bind (wpAny_field hZ rfl (x := .bool fl) rfl ?_)
      cases fl with
      | true => exact wpAny_pure (no s.heap hZ (Heap.SameBut.refl _ _))
      | false => exact wpAny_bind (wpAny_setField_rec hZ (by simp) fun g hg sg => wpAny_pure (no g hg sg))
/-- what is known behind one turn of the zip -/
abbrev ZNext (s : Shared) (z TI TO i1 i2 : Addr) (i : Nat) (P1 P2 : Nat → Value → Prop) (St1 St2 : Nat → Heap → Prop) (x1 x2 : Value) (h' : Heap) : Prop :=
  P1 i x1 ∧ P2 i x2 ∧ (∃ v' fl', ZR h' z TI TO v' fl' ∧ OutV v') ∧ (∃ b1 b2, IsTupOf2 h' TO b1 b2) ∧ St1 (i + 1) h' ∧ St2 (i + 1) h' ∧ IsTupOf2 h' s.heap.objs.size x1 x2 ∧ h'.objs.size = s.heap.objs.size + 1 ∧ ∀ c o, c ≠ z → c ≠ TO → c ≠ i1 → c ≠ i2 → s.heap.get? c = some o → h'.get? c = some o
theorem zz_item {Q : Value → Shared → Prop} (S : ZipSep2 z TI TO i1 i2 fp1 fp2) (D1 : Draws prog w A i1 fp1 n1 P1 St1) (D2 : Draws prog w A i2 fp2 n2 P2 St2) (hZ : ZR s.heap z TI TO v fl) (hv : OutV v) (hI : IsTupOf2 s.heap TI (.ref i1) (.ref i2)) (hO : IsTupOf2 s.heap TO a1 a2) (t1 : St1 i s.heap) (t2 : St2 i s.heap) (l1 : i < n1) (l2 : i < n2)
    (fin : ∀ x1 x2 h' tk, ZNext s z TI TO i1 i2 i P1 P2 St1 St2 x1 x2 h' → Q (.ref s.heap.objs.size) { s with heap := h', toks := tk }) :
    wpAny (model prog w) A (Builtin.«zip.__next__» ⟨[.ref z], []⟩) (fun r s' => ∃ u, r = .done (.ret u) ∧ Q u s') E s := by
  obtain ⟨hp, gn, dr, tk0, os0⟩ := s
  show wpAny _ _ (field (.ref z) 2 >>= _) _ _ ⟨hp, gn, dr, tk0, os0⟩
  refine wpAny_bind (wpAny_field (s := ⟨hp, gn, dr, tk0, os0⟩) hZ rfl (x := .bool false) rfl ?_)
  show wpAny _ _ (field (.ref z) 3 >>= _) _ _ ⟨hp, gn, dr, tk0, os0⟩
  refine wpAny_bind (wpAny_field (s := ⟨hp, gn, dr, tk0, os0⟩) hZ rfl (x := .ref TI) rfl ?_)
  refine wpAny_bind (wpAny_seqItems (s := ⟨hp, gn, dr, tk0, os0⟩) hI rfl ?_)
  show wpAny _ _ (Builtin.SmallTypes.ownedTupleIsFree (.ref z) >>= _) _ _ ⟨hp, gn, dr, tk0, os0⟩
  refine wpAny_bind (zz_free (s := ⟨hp, gn, dr, tk0, os0⟩) hZ hv ?_ fun g0 hz0 sb0 => ?_)
  · -- the pair is free
    simp only [if_true]
    refine wpAny_bind (wpAny_rule ?_)
    refine wpAny_bind (wpAny_field (s := ⟨hp, gn, dr, tk0, os0⟩) hZ rfl (x := .ref TO) rfl ?_)
    refine wpAny_bind (wpAny_setField_rec (s := ⟨hp, gn, dr, tk0, os0⟩) hZ (by simp) fun g0 hz0 sb0 => ?_)
    replace hz0 : ZR g0 z TI TO .ellipsis fl := hz0
    replace sb0 : Heap.SameBut z hp g0 := sb0
    refine wpAny_bind ?_
    simp only [List.zipIdx_cons, List.zipIdx_nil, List.forIn_cons, List.forIn_nil]
    refine wpAny_bind (wpAny_bind (wpAny_onRaise ?_))
    show wpAny _ _ (Builtin.SmallTypes.nextOf (.ref i1) >>= _) _ _ (⟨g0, gn, dr, tk0, os0⟩ : Shared)
    refine wpAny_bind (D1.item i ⟨g0, gn, dr, tk0, os0⟩ _ _ l1 (D1.over t1 sb0 S.zf1) fun x1 p1 k1 q1 n1' sb1 => wpAny_pure ?_)
    replace sb1 : Heap.SameBut i1 g0 p1 := sb1
    have o1 : IsTupOf2 p1 TO a1 a2 := sb1.extBut _ _ S.Ti1 (sb0.extBut _ _ S.TOz hO)
    refine wpAny_bind (wpAny_seqItems (s := (⟨p1, gn, dr, k1, os0⟩ : Shared)) o1 rfl ?_)
    refine wpAny_bind (updateSeq_IsTupOf2 (s := (⟨p1, gn, dr, k1, os0⟩ : Shared)) o1 fun g1 o1' sc1 => ?_)
    replace o1' : IsTupOf2 g1 TO x1 a2 := o1'
    replace sc1 : Heap.SameBut TO p1 g1 := sc1
    refine wpAny_bind (wpAny_letGo (wpAny_pure ?_))
    refine wpAny_bind (wpAny_bind (wpAny_onRaise ?_))
    show wpAny _ _ (Builtin.SmallTypes.nextOf (.ref i2) >>= _) _ _ (⟨g1, gn, dr, k1, os0⟩ : Shared)
    refine wpAny_bind (D2.item i ⟨g1, gn, dr, k1, os0⟩ _ _ l2 (D2.over (D2.over (D2.over t2 sb0 S.zf2) sb1 S.sep1_2) sc1 S.Tf2) fun x2 p2 k2 q2 n2' sb2 => wpAny_pure ?_)
    replace sb2 : Heap.SameBut i2 g1 p2 := sb2
    have o2 : IsTupOf2 p2 TO x1 a2 := sb2.extBut _ _ S.Ti2 o1'
    refine wpAny_bind (wpAny_seqItems (s := (⟨p2, gn, dr, k2, os0⟩ : Shared)) o2 rfl ?_)
    refine wpAny_bind (updateSeq_IsTupOf2 (s := (⟨p2, gn, dr, k2, os0⟩ : Shared)) o2 fun g2 o2' sc2 => ?_)
    replace o2' : IsTupOf2 g2 TO x1 x2 := o2'
    replace sc2 : Heap.SameBut TO p2 g2 := sc2
    refine wpAny_bind (wpAny_letGo (wpAny_pure (wpAny_pure ?_)))
    refine wpAny_bind (wpAny_seqItems (s := (⟨g2, gn, dr, k2, os0⟩ : Shared)) o2' rfl ?_)
    refine wpAny_bind (wpAny_newTuple ?_)
    have size : g2.objs.size = hp.objs.size := by rw [sc2.1, sb2.1, sc1.1, sb1.1, sb0.1]
    have zat : ZR g2 z TI TO .ellipsis fl := sc2.extBut _ _ S.TOz.symm (sb2.extBut _ _ S.zi2 (sc1.extBut _ _ S.TOz.symm (sb1.extBut _ _ S.zi1 hz0)))
    have old : ∀ c o, c ≠ z → c ≠ TO → c ≠ i1 → c ≠ i2 → hp.get? c = some o → g2.get? c = some o := fun c o nz nT n1 n2 e => sc2.extBut _ _ nT (sb2.extBut _ _ n2 (sc1.extBut _ _ nT (sb1.extBut _ _ n1 (sb0.extBut _ _ nz e))))
    have r1 : St1 (i + 1) g2 := D1.over (D1.over (D1.over n1' sc1 S.Tf1) sb2 S.sep2_1) sc2 S.Tf1
    have r2 : St2 (i + 1) g2 := D2.over n2' sc2 S.Tf2
    have zlt : z < g2.objs.size := Heap.lt_size zat
    show wpAny _ _ (Builtin.SmallTypes.ownedTupleHandOut (.ref z) (.ref g2.objs.size) >>= _) _ _ (⟨g2.push { cls := .type "tuple", data := .seq #[x1, x2] }, gn, dr, k2, os0⟩ : Shared)
    refine wpAny_bind ?_
    unfold Builtin.SmallTypes.ownedTupleHandOut
    have zp : ZR (g2.push { cls := .type "tuple", data := .seq #[x1, x2] }) z TI TO .ellipsis fl := Heap.get?_push_of_some _ zat
    refine wpAny_bind (wpAny_setField_rec (s := (⟨g2.push { cls := .type "tuple", data := .seq #[x1, x2] }, gn, dr, k2, os0⟩ : Shared)) zp (by simp) fun u1 zu1 su1 => ?_)
    replace zu1 : ZR u1 z TI TO (rawInt g2.objs.size) fl := zu1
    refine wpAny_setField_rec (s := (⟨u1, gn, dr, k2, os0⟩ : Shared)) zu1 (by simp) fun u2 zu2 su2 => ?_
    replace zu2 : ZR u2 z TI TO (rawInt g2.objs.size) false := zu2
    replace su1 : Heap.SameBut z (g2.push { cls := .type "tuple", data := .seq #[x1, x2] }) u1 := su1
    replace su2 : Heap.SameBut z u1 u2 := su2
    have up : ∀ c o, c ≠ z → g2.get? c = some o → u2.get? c = some o := fun c o nz e => su2.extBut _ _ nz (su1.extBut _ _ nz (Heap.get?_push_of_some _ e))
    have tn : IsTupOf2 u2 g2.objs.size x1 x2 := su2.extBut _ _ (Nat.ne_of_gt zlt) (su1.extBut _ _ (Nat.ne_of_gt zlt) (Heap.get?_push_size _ rfl))
    have zs : u2.objs.size = g2.objs.size + 1 := by rw [su2.1, su1.1, Heap.size_push]
    rw [size] at tn zs zu2
    refine wpAny_pure ⟨_, rfl, ?_⟩
    show Q (.ref g2.objs.size) ⟨u2, gn, dr, k2, os0⟩
    rw [size]
    exact fin x1 x2 u2 k2 ⟨q1, q2, ⟨_, _, zu2, .inr ⟨_, rfl⟩⟩, ⟨_, _, up _ _ S.TOz o2'⟩, D1.frame _ _ _ r1 fun b hb o e => up b o (fun q => S.zf1 (q ▸ hb)) e, D2.frame _ _ _ r2 fun b hb o e => up b o (fun q => S.zf2 (q ▸ hb)) e, tn, zs, fun c o nz nT n1 n2 e => up c o nz (old c o nz nT n1 n2 e)⟩
  · -- it is out
    replace hz0 : ZR g0 z TI TO v true := hz0
    replace sb0 : Heap.SameBut z hp g0 := sb0
    simp only [Bool.false_eq_true, if_false]
    refine wpAny_bind ?_
    rw [← Array.forIn_toList]
    simp only [List.forIn_cons, List.forIn_nil]
    refine wpAny_bind (wpAny_bind (wpAny_holding ?_))
    show wpAny _ _ (Builtin.SmallTypes.nextOf (.ref i1) >>= _) _ _ (⟨g0, gn, dr, tk0, os0⟩ : Shared)
    refine wpAny_bind (D1.item i ⟨g0, gn, dr, tk0, os0⟩ _ _ l1 (D1.over t1 sb0 S.zf1) fun x1 p1 k1 q1 n1' sb1 => wpAny_pure (wpAny_pure ?_))
    replace sb1 : Heap.SameBut i1 g0 p1 := sb1
    refine wpAny_bind (wpAny_bind (wpAny_holding ?_))
    show wpAny _ _ (Builtin.SmallTypes.nextOf (.ref i2) >>= _) _ _ (⟨p1, gn, dr, k1, os0⟩ : Shared)
    refine wpAny_bind (D2.item i ⟨p1, gn, dr, k1, os0⟩ _ _ l2 (D2.over (D2.over t2 sb0 S.zf2) sb1 S.sep1_2) fun x2 p2 k2 q2 n2' sb2 => wpAny_pure (wpAny_pure (wpAny_pure ?_)))
    replace sb2 : Heap.SameBut i2 p1 p2 := sb2
    show wpAny _ _ (newTuple [x1, x2] >>= _) _ _ (⟨p2, gn, dr, k2, os0⟩ : Shared)
    refine wpAny_bind (wpAny_newTuple (wpAny_pure ⟨_, rfl, ?_⟩))
    have size : p2.objs.size = hp.objs.size := by rw [sb2.1, sb1.1, sb0.1]
    have zat : ZR p2 z TI TO v true := sb2.extBut _ _ S.zi2 (sb1.extBut _ _ S.zi1 hz0)
    have tn : IsTupOf2 (p2.push { cls := .type "tuple", data := .seq #[x1, x2] }) p2.objs.size x1 x2 := Heap.get?_push_size _ rfl
    have zs : (p2.push { cls := .type "tuple", data := .seq #[x1, x2] }).objs.size = p2.objs.size + 1 := Heap.size_push ..
    have on : IsTupOf2 p2 TO a1 a2 := sb2.extBut _ _ S.Ti2 (sb1.extBut _ _ S.Ti1 (sb0.extBut _ _ S.TOz hO))
    show Q (.ref p2.objs.size) _
    rw [size] at tn zs ⊢
    exact fin x1 x2 _ k2 ⟨q1, q2, ⟨_, _, Heap.get?_push_of_some _ zat, hv⟩, ⟨_, _, Heap.get?_push_of_some _ on⟩, D1.frame _ _ _ (D1.over n1' sb2 S.sep2_1) fun b hb o e => Heap.get?_push_of_some _ e, D2.frame _ _ _ n2' fun b hb o e => Heap.get?_push_of_some _ e, tn, zs, fun c o nz nT n1 n2 e => Heap.get?_push_of_some _ (sb2.extBut _ _ n2 (sb1.extBut _ _ n1 (sb0.extBut _ _ nz e)))⟩
theorem zz_end {Q : Fin → Shared → Prop} (S : ZipSep2 z TI TO i1 i2 fp1 fp2) (D1 : Draws prog w A i1 fp1 n1 P1 St1) (D2 : Draws prog w A i2 fp2 n2 P2 St2) (hZ : ZR s.heap z TI TO v fl) (hv : OutV v) (hI : IsTupOf2 s.heap TI (.ref i1) (.ref i2)) (hO : IsTupOf2 s.heap TO a1 a2) (t1 : St1 i s.heap) (t2 : St2 i s.heap) (l1 : i ≤ n1) (l2 : i ≤ n2) (le : i = n1 ∨ i = n2)
    (fin : ∀ h' tk e, (∀ c o, c ≠ z → c ≠ TO → c ≠ i1 → c ≠ i2 → s.heap.get? c = some o → h'.get? c = some o) → (∃ o, h'.get? e = some o ∧ o.cls = .type "StopIteration") → E (.ref e) { s with heap := h', toks := tk }) :
    wpAny (model prog w) A (Builtin.«zip.__next__» ⟨[.ref z], []⟩) Q E s := by
  obtain ⟨hp, gn, dr, tk0, os0⟩ := s
  show wpAny _ _ (field (.ref z) 2 >>= _) _ _ ⟨hp, gn, dr, tk0, os0⟩
  refine wpAny_bind (wpAny_field (s := ⟨hp, gn, dr, tk0, os0⟩) hZ rfl (x := .bool false) rfl ?_)
  show wpAny _ _ (field (.ref z) 3 >>= _) _ _ ⟨hp, gn, dr, tk0, os0⟩
  refine wpAny_bind (wpAny_field (s := ⟨hp, gn, dr, tk0, os0⟩) hZ rfl (x := .ref TI) rfl ?_)
  refine wpAny_bind (wpAny_seqItems (s := ⟨hp, gn, dr, tk0, os0⟩) hI rfl ?_)
  show wpAny _ _ (Builtin.SmallTypes.ownedTupleIsFree (.ref z) >>= _) _ _ ⟨hp, gn, dr, tk0, os0⟩
  refine wpAny_bind (zz_free (s := ⟨hp, gn, dr, tk0, os0⟩) hZ hv ?_ fun g0 hz0 sb0 => ?_)
  · simp only [if_true]
    refine wpAny_bind (wpAny_rule ?_)
    refine wpAny_bind (wpAny_field (s := ⟨hp, gn, dr, tk0, os0⟩) hZ rfl (x := .ref TO) rfl ?_)
    refine wpAny_bind (wpAny_setField_rec (s := ⟨hp, gn, dr, tk0, os0⟩) hZ (by simp) fun g0 hz0 sb0 => ?_)
    replace hz0 : ZR g0 z TI TO .ellipsis fl := hz0
    replace sb0 : Heap.SameBut z hp g0 := sb0
    -- behind the raise the zip's mark is taken back
    have back : ∀ (q : Heap) (k : Nat) (e : Addr), ZR q z TI TO .ellipsis fl → (∃ o, q.get? e = some o ∧ o.cls = .type "StopIteration") → (∀ c o, c ≠ z → c ≠ TO → c ≠ i1 → c ≠ i2 → hp.get? c = some o → q.get? c = some o) → wpAny (model prog w) A (setField (.ref z) 0 .none) (fun _ s' => E (.ref e) s') E (⟨q, gn, dr, k, os0⟩ : Shared) := fun q k e zq ⟨oe, ge, ce⟩ kp => by
      have ez : e ≠ z := fun y => by
        subst y
        rw [zq] at ge
        cases ge
        simp at ce
      refine wpAny_setField_rec (s := (⟨q, gn, dr, k, os0⟩ : Shared)) zq (by simp) fun q' _ sq => ?_
      replace sq : Heap.SameBut z q q' := sq
      exact fin q' k e (fun c o nz nT n1 n2 y => sq.extBut _ _ nz (kp c o nz nT n1 n2 y)) ⟨oe, sq.extBut _ _ ez ge, ce⟩
    refine wpAny_bind ?_
    simp only [List.zipIdx_cons, List.zipIdx_nil, List.forIn_cons, List.forIn_nil]
    refine wpAny_bind (wpAny_bind (wpAny_onRaise ?_))
    show wpAny _ _ (Builtin.SmallTypes.nextOf (.ref i1) >>= _) _ _ (⟨g0, gn, dr, tk0, os0⟩ : Shared)
    by_cases lt : i < n1
    · refine wpAny_bind (D1.item i ⟨g0, gn, dr, tk0, os0⟩ _ _ lt (D1.over t1 sb0 S.zf1) fun x1 p1 k1 q1 n1' sb1 => wpAny_pure ?_)
      replace sb1 : Heap.SameBut i1 g0 p1 := sb1
      have o1 : IsTupOf2 p1 TO a1 a2 := sb1.extBut _ _ S.Ti1 (sb0.extBut _ _ S.TOz hO)
      refine wpAny_bind (wpAny_seqItems (s := (⟨p1, gn, dr, k1, os0⟩ : Shared)) o1 rfl ?_)
      refine wpAny_bind (updateSeq_IsTupOf2 (s := (⟨p1, gn, dr, k1, os0⟩ : Shared)) o1 fun g1 o1' sc1 => ?_)
      replace sc1 : Heap.SameBut TO p1 g1 := sc1
      refine wpAny_bind (wpAny_letGo (wpAny_pure ?_))
      refine wpAny_bind (wpAny_bind (wpAny_onRaise ?_))
      show wpAny _ _ (Builtin.SmallTypes.nextOf (.ref i2) >>= _) _ _ (⟨g1, gn, dr, k1, os0⟩ : Shared)
      obtain rfl : i = n2 := by omega
      refine wpAny_bind (D2.done ⟨g1, gn, dr, k1, os0⟩ _ _ (D2.over (D2.over (D2.over t2 sb0 S.zf2) sb1 S.sep1_2) sc1 S.Tf2) fun q e eq' he => ?_)
      replace eq' : Heap.ExtBut i2 g1 q := eq'
      exact back q k1 e (eq' _ _ S.zi2 (sc1.extBut _ _ S.TOz.symm (sb1.extBut _ _ S.zi1 hz0))) he fun c o nz nT n1 n2 y => eq' _ _ n2 (sc1.extBut _ _ nT (sb1.extBut _ _ n1 (sb0.extBut _ _ nz y)))
    · obtain rfl : i = n1 := by omega
      refine wpAny_bind (D1.done ⟨g0, gn, dr, tk0, os0⟩ _ _ (D1.over t1 sb0 S.zf1) fun q e eq' he => ?_)
      replace eq' : Heap.ExtBut i1 g0 q := eq'
      exact back q tk0 e (eq' _ _ S.zi1 hz0) he fun c o nz nT n1 n2 y => eq' _ _ n1 (sb0.extBut _ _ nz y)
  · replace hz0 : ZR g0 z TI TO v true := hz0
    replace sb0 : Heap.SameBut z hp g0 := sb0
    simp only [Bool.false_eq_true, if_false]
    refine wpAny_bind ?_
    rw [← Array.forIn_toList]
    simp only [List.forIn_cons, List.forIn_nil]
    refine wpAny_bind (wpAny_bind (wpAny_holding ?_))
    show wpAny _ _ (Builtin.SmallTypes.nextOf (.ref i1) >>= _) _ _ (⟨g0, gn, dr, tk0, os0⟩ : Shared)
    by_cases lt : i < n1
    · refine wpAny_bind (D1.item i ⟨g0, gn, dr, tk0, os0⟩ _ _ lt (D1.over t1 sb0 S.zf1) fun x1 p1 k1 q1 n1' sb1 => wpAny_pure (wpAny_pure ?_))
      replace sb1 : Heap.SameBut i1 g0 p1 := sb1
      refine wpAny_bind (wpAny_bind (wpAny_holding ?_))
      show wpAny _ _ (Builtin.SmallTypes.nextOf (.ref i2) >>= _) _ _ (⟨p1, gn, dr, k1, os0⟩ : Shared)
      obtain rfl : i = n2 := by omega
      refine wpAny_bind (D2.done ⟨p1, gn, dr, k1, os0⟩ _ _ (D2.over (D2.over t2 sb0 S.zf2) sb1 S.sep1_2) fun q e eq' he => ?_)
      replace eq' : Heap.ExtBut i2 p1 q := eq'
      exact fin q k1 e (fun c o nz nT n1 n2 y => eq' _ _ n2 (sb1.extBut _ _ n1 (sb0.extBut _ _ nz y))) he
    · obtain rfl : i = n1 := by omega
      refine wpAny_bind (D1.done ⟨g0, gn, dr, tk0, os0⟩ _ _ (D1.over t1 sb0 S.zf1) fun q e eq' he => ?_)
      replace eq' : Heap.ExtBut i1 g0 q := eq'
      exact fin q tk0 e (fun c o nz nT n1 n2 y => eq' _ _ n1 (sb0.extBut _ _ nz y)) he
theorem zz_nextOf {Q : Value → Shared → Prop} (S : ZipSep2 z TI TO i1 i2 fp1 fp2) (D1 : Draws prog w A.in1 i1 fp1 n1 P1 St1) (D2 : Draws prog w A.in1 i2 fp2 n2 P2 St2) (hZ : ZR s.heap z TI TO v fl) (hv : OutV v) (hI : IsTupOf2 s.heap TI (.ref i1) (.ref i2)) (hO : IsTupOf2 s.heap TO a1 a2) (t1 : St1 i s.heap) (t2 : St2 i s.heap) (l1 : i < n1) (l2 : i < n2)
    (fin : ∀ x1 x2 h' tk, ZNext s z TI TO i1 i2 i P1 P2 St1 St2 x1 x2 h' → Q (.ref s.heap.objs.size) { s with heap := h', toks := tk }) : wpAny (model prog w) A (Builtin.SmallTypes.nextOf (.ref z)) Q E s := by
  have ty : s.TypeIs (.ref z) "zip" := ⟨_, hZ, rfl⟩
  unfold Builtin.SmallTypes.nextOf
  exact wpAny_bind (wpAny_callSpecial?_slot (name := Str.ofString "__next__") ty F.slot_zip_next (wpAny_call_entry F.slot_zip_next ty F.entry_zip_next (zz_item S D1 D2 hZ hv hI hO t1 t2 l1 l2 fun x1 x2 h' tk zn => wpAny_pure (fin x1 x2 h' tk zn)) (F.args_zip_next_1 _)))
theorem zz_nextEnd {Q : Value → Shared → Prop} (S : ZipSep2 z TI TO i1 i2 fp1 fp2) (D1 : Draws prog w A.in1 i1 fp1 n1 P1 St1) (D2 : Draws prog w A.in1 i2 fp2 n2 P2 St2) (hZ : ZR s.heap z TI TO v fl) (hv : OutV v) (hI : IsTupOf2 s.heap TI (.ref i1) (.ref i2)) (hO : IsTupOf2 s.heap TO a1 a2) (t1 : St1 i s.heap) (t2 : St2 i s.heap) (l1 : i ≤ n1) (l2 : i ≤ n2) (le : i = n1 ∨ i = n2)
    (fin : ∀ h' tk e, (∀ c o, c ≠ z → c ≠ TO → c ≠ i1 → c ≠ i2 → s.heap.get? c = some o → h'.get? c = some o) → (∃ o, h'.get? e = some o ∧ o.cls = .type "StopIteration") → E (.ref e) { s with heap := h', toks := tk }) : wpAny (model prog w) A (Builtin.SmallTypes.nextOf (.ref z)) Q E s := by
  have ty : s.TypeIs (.ref z) "zip" := ⟨_, hZ, rfl⟩
  unfold Builtin.SmallTypes.nextOf
  exact wpAny_bind (wpAny_callSpecial?_slot (name := Str.ofString "__next__") ty F.slot_zip_next (wpAny_call_entry F.slot_zip_next ty F.entry_zip_next (zz_end S D1 D2 hZ hv hI hO t1 t2 l1 l2 le fin) (F.args_zip_next_1 _)))
/-- one turn of the enumerate about it -/
theorem ez_item {e : Addr} {c : Int} {old : Value} {Q : Option Value → Shared → Prop} (S : ZipSep2 z TI TO i1 i2 fp1 fp2) (D1 : Draws prog w A.in1.in1 i1 fp1 n1 P1 St1) (D2 : Draws prog w A.in1.in1 i2 fp2 n2 P2 St2) (hE : IsEnum s.heap e z c old) (ne : e ≠ z ∧ e ≠ TO ∧ e ≠ i1 ∧ e ≠ i2) (hZ : ZR s.heap z TI TO v fl) (hv : OutV v) (hI : IsTupOf2 s.heap TI (.ref i1) (.ref i2)) (hO : IsTupOf2 s.heap TO a1 a2) (t1 : St1 i s.heap) (t2 : St2 i s.heap) (l1 : i < n1) (l2 : i < n2)
    (fin : ∀ x1 x2 h1 k1 h' k2, ZNext s z TI TO i1 i2 i P1 P2 St1 St2 x1 x2 h1 → IsEnumOut h' e z (c + 1) (.ref s.heap.objs.size) (s.heap.objs.size + 1) → h'.get? (s.heap.objs.size + 1) = some { cls := .type "tuple", data := .seq #[.int c k1, .ref s.heap.objs.size] } → (∀ b o, b ≠ e → h1.get? b = some o → h'.get? b = some o) → Q (some (.ref (s.heap.objs.size + 1))) { s with heap := h', toks := k2 }) :
    wpAny (model prog w) A (pyNext (.ref e)) Q E s := by
  have ty : s.TypeIs (.ref e) "enumerate" := ⟨_, hE, rfl⟩
  unfold pyNext
  refine wpAny_bind (wpAny_attempt (wpAny_callSpecial?_slot (name := Str.ofString "__next__") ty F.slot_enumerate_next (wpAny_call_entry F.slot_enumerate_next ty F.entry_enumerate_next ?_ (F.args_enumerate_next_1 _))))
  obtain ⟨hp, gn, dr, tk0, os0⟩ := s
  show wpAny _ _ (field (.ref e) 2 >>= _) _ _ ⟨hp, gn, dr, tk0, os0⟩
  refine wpAny_bind (wpAny_field (s := ⟨hp, gn, dr, tk0, os0⟩) hE rfl (x := .ref z) rfl ?_)
  refine wpAny_bind (zz_nextOf (s := ⟨hp, gn, dr, tk0, os0⟩) S D1 D2 hZ hv hI hO t1 t2 l1 l2 fun x1 x2 h1 k1 zn => ?_)
  have eat : IsEnum h1 e z c old := zn.2.2.2.2.2.2.2.2 _ _ ne.1 ne.2.1 ne.2.2.1 ne.2.2.2 hE
  have s1 : h1.objs.size = hp.objs.size + 1 := zn.2.2.2.2.2.2.2.1
  show wpAny _ _ (field (.ref e) 3 >>= _) _ _ (⟨h1, gn, dr, k1, os0⟩ : Shared)
  refine wpAny_bind (wpAny_field (s := (⟨h1, gn, dr, k1, os0⟩ : Shared)) eat rfl (x := rawInt c) rfl ?_)
  show wpAny _ _ (field (.ref e) 4 >>= _) _ _ (⟨h1, gn, dr, k1, os0⟩ : Shared)
  refine wpAny_bind (wpAny_field (s := (⟨h1, gn, dr, k1, os0⟩ : Shared)) eat rfl (x := .none) rfl ?_)
  show wpAny _ _ (mkInt c >>= _) _ _ (⟨h1, gn, dr, k1, os0⟩ : Shared)
  refine wpAny_bind (wpAny_mkInt ?_)
  show wpAny _ _ (setField (.ref e) 3 (rawInt (c + 1)) >>= _) _ _ (⟨h1, gn, dr, k1 + 1, os0⟩ : Shared)
  refine wpAny_bind (wpAny_setField_rec (s := (⟨h1, gn, dr, k1 + 1, os0⟩ : Shared)) eat (by simp) fun u1 eu1 su1 => ?_)
  replace su1 : Heap.SameBut e h1 u1 := su1
  replace eu1 : IsEnum u1 e z (c + 1) old := eu1
  show wpAny _ _ (setField (.ref e) 4 .none >>= _) _ _ (⟨u1, gn, dr, k1 + 1, os0⟩ : Shared)
  refine wpAny_bind (wpAny_setField_rec (s := (⟨u1, gn, dr, k1 + 1, os0⟩ : Shared)) eu1 (by simp) fun u2 eu2 su2 => ?_)
  replace su2 : Heap.SameBut e u1 u2 := su2
  replace eu2 : IsEnum u2 e z (c + 1) old := eu2
  show wpAny _ _ (newTuple [.int c k1, .ref hp.objs.size] >>= _) _ _ (⟨u2, gn, dr, k1 + 1, os0⟩ : Shared)
  refine wpAny_bind (wpAny_newTuple ?_)
  have s2 : u2.objs.size = hp.objs.size + 1 := by rw [su2.1, su1.1, s1]
  have el : e < hp.objs.size := Heap.lt_size hE
  have eu3 : IsEnum (u2.push { cls := .type "tuple", data := .seq #[.int c k1, .ref hp.objs.size] }) e z (c + 1) old := Heap.get?_push_of_some _ eu2
  have tn : (u2.push { cls := .type "tuple", data := .seq #[.int c k1, .ref hp.objs.size] }).get? (hp.objs.size + 1) = some { cls := .type "tuple", data := .seq #[.int c k1, .ref hp.objs.size] } := by
    have q := Heap.get?_push_size u2 (o := { cls := .type "tuple", data := .seq #[.int c k1, .ref hp.objs.size] }) rfl
    rw [s2] at q
    exact q
  have kp : ∀ b o, b ≠ e → h1.get? b = some o → (u2.push { cls := .type "tuple", data := .seq #[.int c k1, .ref hp.objs.size] }).get? b = some o := fun b o nb q => Heap.get?_push_of_some _ (su2.extBut _ _ nb (su1.extBut _ _ nb q))
  show wpAny _ _ (Builtin.SmallTypes.ownedTupleIsFree (.ref e) >>= _) _ _ (⟨u2.push { cls := .type "tuple", data := .seq #[.int c k1, .ref hp.objs.size] }, gn, dr, k1 + 1, os0⟩ : Shared)
  rw [s2]
  generalize u2.push { cls := .type "tuple", data := .seq #[.int c k1, .ref hp.objs.size] } = u3 at eu3 tn kp
  refine wpAny_bind ?_
  unfold Builtin.SmallTypes.ownedTupleIsFree
  refine wpAny_bind (wpAny_field (s := (⟨u3, gn, dr, k1 + 1, os0⟩ : Shared)) eu3 rfl (x := .none) rfl (wpAny_pure ?_))
  simp only [if_true]
  refine wpAny_bind (wpAny_rule ?_)
  refine wpAny_bind (wpAny_field (s := (⟨u3, gn, dr, k1 + 1, os0⟩ : Shared)) eu3 rfl (x := old) rfl ?_)
  refine wpAny_bind (wpAny_setField_rec (s := (⟨u3, gn, dr, k1 + 1, os0⟩ : Shared)) eu3 (by simp) fun u4 eu4 su4 => ?_)
  replace su4 : Heap.SameBut e u3 u4 := su4
  replace eu4 : IsEnum u4 e z (c + 1) (.ref hp.objs.size) := eu4
  show wpAny _ _ (Builtin.SmallTypes.ownedTupleHandOut (.ref e) (.ref (hp.objs.size + 1)) >>= _) _ _ (⟨u4, gn, dr, k1 + 1, os0⟩ : Shared)
  refine wpAny_bind ?_
  unfold Builtin.SmallTypes.ownedTupleHandOut
  refine wpAny_bind (wpAny_setField_rec (s := (⟨u4, gn, dr, k1 + 1, os0⟩ : Shared)) eu4 (by simp) fun u5 eu5 su5 => ?_)
  replace su5 : Heap.SameBut e u4 u5 := su5
  replace eu5 : IsEnumOut u5 e z (c + 1) (.ref hp.objs.size) (hp.objs.size + 1) := eu5
  refine wpAny_setField_rec (s := (⟨u5, gn, dr, k1 + 1, os0⟩ : Shared)) eu5 (by simp) fun u6 eu6 su6 => ?_
  replace su6 : Heap.SameBut e u5 u6 := su6
  replace eu6 : IsEnumOut u6 e z (c + 1) (.ref hp.objs.size) (hp.objs.size + 1) := eu6
  have up : ∀ b o, b ≠ e → u3.get? b = some o → u6.get? b = some o := fun b o nb q => su6.extBut _ _ nb (su5.extBut _ _ nb (su4.extBut _ _ nb q))
  refine wpAny_bind (wpAny_letGo (wpAny_pure ⟨_, rfl, wpAny_pure ?_⟩))
  exact fin x1 x2 h1 k1 u6 (k1 + 1) zn eu6 (up _ _ (Nat.ne_of_gt (Nat.lt_succ_of_lt el)) tn) fun b o nb q => up b o nb (kp b o nb q)
theorem ez_end {e : Addr} {c : Int} {old : Value} {Q : Option Value → Shared → Prop} (S : ZipSep2 z TI TO i1 i2 fp1 fp2) (D1 : Draws prog w A.in1.in1 i1 fp1 n1 P1 St1) (D2 : Draws prog w A.in1.in1 i2 fp2 n2 P2 St2) (hE : IsEnum s.heap e z c old) (hZ : ZR s.heap z TI TO v fl) (hv : OutV v) (hI : IsTupOf2 s.heap TI (.ref i1) (.ref i2)) (hO : IsTupOf2 s.heap TO a1 a2) (t1 : St1 i s.heap) (t2 : St2 i s.heap) (l1 : i ≤ n1) (l2 : i ≤ n2) (le : i = n1 ∨ i = n2)
    (fin : ∀ h' tk, (∀ c o, c ≠ z → c ≠ TO → c ≠ i1 → c ≠ i2 → s.heap.get? c = some o → h'.get? c = some o) → Q none { s with heap := h', toks := tk }) : wpAny (model prog w) A (pyNext (.ref e)) Q E s := by
  have ty : s.TypeIs (.ref e) "enumerate" := ⟨_, hE, rfl⟩
  unfold pyNext
  refine wpAny_bind (wpAny_attempt (wpAny_callSpecial?_slot (name := Str.ofString "__next__") ty F.slot_enumerate_next (wpAny_call_entry F.slot_enumerate_next ty F.entry_enumerate_next ?_ (F.args_enumerate_next_1 _))))
  show wpAny _ _ (field (.ref e) 2 >>= _) _ _ s
  refine wpAny_bind (wpAny_field hE rfl (x := .ref z) rfl (wpAny_bind (zz_nextEnd S D1 D2 hZ hv hI hO t1 t2 l1 l2 le fun h' tk ex kp st => ?_)))
  obtain ⟨ob, go, gc⟩ := st
  exact wpAny_bind (wpAny_isInstance (s := { s with heap := h', toks := tk }) (T := "StopIteration") (b := true) ⟨ob, go, gc⟩ isSubtype_stop (wpAny_pure (fin h' tk kp)))
/-- enumerate(z), z a zip -/
theorem enum_newZ : Meets (Builtin.«enumerate.__new__» ⟨[.type "enumerate", .ref z], []⟩) (fun _ R s => IsZip s.heap z TI TO .none ∧ R (.ok (.ret (.ref s.heap.objs.size))) { s with heap := s.heap.push { cls := .type "enumerate", data := .fields #[.none, .bool false, .ref z, rawInt 0, .none, .none] } }) :=
  .of_wp fun prog w A R s h => by
    obtain ⟨hp, g, d, tk, os⟩ := s
    obtain ⟨hz, h⟩ := h
    have hsub := sub_enumerate
    have q1 : ∀ {A1 : Around} {E1 : Value → Shared → Prop} {Q1 : Value → Shared → Prop}, Q1 (.ref z) ⟨hp, g, d, tk, os⟩ → wpAny (model prog w) A1 (pyIter (.ref z)) Q1 E1 ⟨hp, g, d, tk, os⟩ := fun q => wpAny_pyIter_zip (s := ⟨hp, g, d, tk, os⟩) hz q
    wp_walk using q1
    refine wpAny_stack_any fun st => wpAny_pure ?_
    split
    · rename_i c _ _ _ _ _
      cases (c == Value.type "enumerate") <;> (wp_walk using q1; exact ⟨_, rfl, h⟩)
    · wp_walk using q1
      exact ⟨_, rfl, h⟩
theorem call_enumZ {Q : Value → Shared → Prop} (hz : IsZip s.heap z TI TO .none) (h : ∀ h', IsEnum h' s.heap.objs.size z 0 .none → (∀ b o, s.heap.get? b = some o → h'.get? b = some o) → Q (.ref s.heap.objs.size) { s with heap := h' }) : wpAny (model prog w) A (call (.type "enumerate") [.ref z]) Q E s := by
  refine callType_new F.called_enumerate (by decide) (F.typeCall_enumerate_1 _) (F.newCall_enumerate_1 _) (fun obj => F.args_object_init_2 obj _) F.entry_enumerate_new (enum_newZ (z := z) (TI := TI) (TO := TO)) ⟨hz, ?_⟩
  have he : IsEnum (s.heap.push { cls := .type "enumerate", data := .fields #[.none, .bool false, .ref z, rawInt 0, .none, .none] }) s.heap.objs.size z 0 .none := Heap.get?_push_size _ rfl
  exact ⟨⟨_, he, rfl⟩, h _ he fun b u x => Heap.get?_push_of_some _ x⟩
end
/-! ### the rule -/
def ItEZ (K : PySem.W.Frag) (a b : Addr) : It :=
  ⟨fun i H => ∃ (xs ys : List V) (x y : V), SqT K H a xs ∧ SqT K H b ys ∧ xs[i]? = some x ∧ ys[i]? = some y,
    fun i H v H' => ∃ T U x y, v = .ref U ∧ H T = none ∧ (upd H T (.tup [x, y])) U = none ∧ H' = upd (upd H T (.tup [x, y])) U (.tup [.int (i : Nat), .ref T]) ∧ (∀ xs, SqT K H a xs → xs[i]? = some x) ∧ ∀ ys, SqT K H b ys → ys[i]? = some y,
    fun i H => ∃ xs ys : List V, SqT K H a xs ∧ SqT K H b ys ∧ i ≤ xs.length ∧ i ≤ ys.length ∧ (xs.length = i ∨ ys.length = i)⟩
structure StandsE (e z TI TO i1 i2 a b : Addr) (i : Nat) (h : Heap) : Prop where
  en : ∃ old, IsEnum h e z ((i : Nat) : Int) old
  zip : ∃ v fl, ZR h z TI TO v fl ∧ OutV v
  ins : IsPair h TI (.ref i1) (.ref i2)
  outs : ∃ x y, IsPair h TO x y
  one : h.IsTupleIter i1 a i
  two : h.IsTupleIter i2 b i
theorem six_all {e z TI TO i1 i2 : Addr} {R : Addr → Prop} (h0 : R e) (h1 : R z) (h2 : R TI) (h3 : R TO) (h4 : R i1) (h5 : R i2) : ∀ c ∈ [e, z, TI, TO, i1, i2], R c := by
  simp only [List.forall_mem_cons]
  exact ⟨h0, h1, h2, h3, h4, h5, fun _ h => absurd h List.not_mem_nil⟩
theorem sep_apartT {z TI TO i1 i2 a b : Addr} (D : ZipApart z TI TO i1 i2 a b) : ZipSep2 z TI TO i1 i2 [i1, a] [i2, b] where
  TIz := D.TIz
  TOz := D.TOz
  TITO := D.TITO
  TIi1 := D.TIi1
  mem1 := List.mem_cons_self
  zf1 := by simp only [List.mem_cons, List.not_mem_nil, or_false, not_or]; exact ⟨D.i1z.symm, D.l1z.symm⟩
  Tf1 := by simp only [List.mem_cons, List.not_mem_nil, or_false, not_or]; exact ⟨D.TOi1, D.l1TO.symm⟩
  TIi2 := D.TIi2
  mem2 := List.mem_cons_self
  zf2 := by simp only [List.mem_cons, List.not_mem_nil, or_false, not_or]; exact ⟨D.i2z.symm, D.l2z.symm⟩
  Tf2 := by simp only [List.mem_cons, List.not_mem_nil, or_false, not_or]; exact ⟨D.TOi2, D.l2TO.symm⟩
  sep1_2 := by simp only [List.mem_cons, List.not_mem_nil, or_false, not_or]; exact ⟨D.i12, D.l2i1.symm⟩
  sep2_1 := by simp only [List.mem_cons, List.not_mem_nil, or_false, not_or]; exact ⟨D.i12.symm, D.l1i2.symm⟩
theorem turn_ez {P : Program} {w : World} {K : PySem.W.Frag} {elts : List Expr} {kk : Nat} {tpos : Pos} {a b e z TI TO i1 i2 : Addr} (D : ZipApart z TI TO i1 i2 a b) (ne : e ≠ z ∧ e ≠ TI ∧ e ≠ TO ∧ e ≠ i1 ∧ e ≠ i2) (nab : e ≠ a ∧ e ≠ b) :
    Turn P w K (.Tuple elts kk tpos) (ItEZ K a b) [e, z, TI, TO, i1, i2] e (StandsE e z TI TO i1 i2 a b) := by
  refine ⟨List.mem_cons_self, fun i h t => six_all ?_ ?_ ⟨_, t.ins, nofun⟩ ?_ ?_ ?_, fun i h h' t k => ?_, ?_, ?_, fun A i s Q E t => ?_⟩
  · obtain ⟨_, q⟩ := t.en
    exact ⟨_, q, nofun⟩
  · obtain ⟨_, _, q, _⟩ := t.zip
    exact ⟨_, q, nofun⟩
  · obtain ⟨_, _, q⟩ := t.outs
    exact ⟨_, q, nofun⟩
  · obtain ⟨o, q, _, d⟩ := t.one
    exact ⟨o, q, by rw [d]; exact nofun⟩
  · obtain ⟨o, q, _, d⟩ := t.two
    exact ⟨o, q, by rw [d]; exact nofun⟩
  · have kc : ∀ c, c ∈ [e, z, TI, TO, i1, i2] → ∀ o, h.get? c = some o → h'.get? c = some o := k
    obtain ⟨old, q0⟩ := t.en
    obtain ⟨v, fl, q1, q2⟩ := t.zip
    obtain ⟨x, y, q3⟩ := t.outs
    exact ⟨⟨old, kc e (by simp) _ q0⟩, ⟨v, fl, kc z (by simp) _ q1, q2⟩, kc TI (by simp) _ t.ins, ⟨x, y, kc TO (by simp) _ q3⟩, t.one.at (kc i1 (by simp)), t.two.at (kc i2 (by simp))⟩
  · rintro X rfl rfl rfl hc i pins s σ H E I hf t ⟨xs, ys, x, y, hqx, hqy, hx, hy⟩
    obtain ⟨us, rx, p, _⟩ := I.tuple hqx
    obtain ⟨vs, ry, p', _⟩ := I.tuple hqy
    obtain ⟨u, hu, ru⟩ := rx.get hx
    obtain ⟨v, hv, rv⟩ := ry.get hy
    obtain ⟨old, hen⟩ := t.en
    obtain ⟨zv, fl, hz, hov⟩ := t.zip
    obtain ⟨_, _, hO⟩ := t.outs
    have b1 : i < us.toArray.size := by rw [List.size_toArray]; exact (List.getElem?_eq_some_iff.mp hu).1
    have b2 : i < vs.toArray.size := by rw [List.size_toArray]; exact (List.getElem?_eq_some_iff.mp hv).1
    have el : e < s.heap.objs.size := Heap.lt_size hen
    have zl : z < s.heap.objs.size := Heap.lt_size hz
    have hd1 : X.A.in1.in1.handled = none := I.ok.hd hc
    refine ez_item (sep_apartT D) (Draws.tuple hd1 i1 a D.l1i1 us.toArray) (Draws.tuple hd1 i2 b D.l2i2 vs.toArray) hen ⟨ne.1, ne.2.2.1, ne.2.2.2.1, ne.2.2.2.2⟩ hz hov t.ins hO ⟨t.one, p⟩ ⟨t.two, p'⟩ b1 b2 fun u' v' h1 k1 h' k2 zn eo eT kp => ⟨_, rfl, ?_⟩
    obtain ⟨eu, ev, ⟨v2, fl2, z2, ov2⟩, ⟨c1, c2, o2⟩, r1, r2, tT, sz, old1⟩ := zn
    obtain rfl : u = u' := Option.some.inj ((show us.toArray[i]? = some u by simpa using hu).symm.trans eu)
    obtain rfl : v = v' := Option.some.inj ((show vs.toArray[i]? = some v by simpa using hv).symm.trans ev)
    refine wpAny_letOwnedTupleGo_enum (s := { s with heap := h', toks := k2 }) eo fun g ge sg => ?_
    replace sg : Heap.SameBut e h' g := sg
    have keep : ∀ {c o}, c ≠ e → h1.get? c = some o → g.get? c = some o := fun nc q => (sg.2 _ nc).trans (kp _ _ nc q)
    have nT : s.heap.objs.size ≠ e := Nat.ne_of_gt el
    have nU : s.heap.objs.size + 1 ≠ e := Nat.ne_of_gt (Nat.lt_succ_of_lt el)
    have J1 : Inv X pins σ (upd H s.heap.objs.size (.tup [x, y])) { s with heap := h1, toks := k2 } := I.turnedNew (t' := k2) (ch := [e, z, TI, TO, i1, i2]) (h' := h1) (T := s.heap.objs.size) (ob := .tup [x, y]) (fun c o n q => by
      simp only [List.mem_cons, List.not_mem_nil, or_false, not_or] at n
      exact old1 c o n.2.1 n.2.2.2.1 n.2.2.2.2.1 n.2.2.2.2.2 q) hf (Nat.le_refl _) ⟨by show 2 ≤ sizeLine; decide, [u, v], .cons ru (.cons rv .nil), ⟨_, tT, rfl, _, rfl⟩⟩
    have hf1 : ∀ c ∈ [e, z, TI, TO, i1, i2], FpOk X pins (upd H s.heap.objs.size (.tup [x, y])) c := fun c hm => by
      have q := hf c hm
      refine ⟨?_, q.2⟩
      have lt : c < s.heap.objs.size := by
        have := six_all (e := e) (z := z) (TI := TI) (TO := TO) (i1 := i1) (i2 := i2) (R := fun c => c < s.heap.objs.size) el zl (Heap.lt_size t.ins) (Heap.lt_size hO) (let ⟨_, q, _⟩ := t.one; Heap.lt_size q) (let ⟨_, q, _⟩ := t.two; Heap.lt_size q)
        exact this c hm
      rw [upd_ne (Nat.ne_of_lt lt)]
      exact q.1
    have tT2 : (upd H s.heap.objs.size (.tup [x, y])) (s.heap.objs.size + 1) = none := by
      rw [upd_ne (Nat.succ_ne_self _)]
      exact I.hok.fresh (Nat.le_succ _)
    have J2 := J1.turnedNew (t' := k2) (ch := [e]) (h' := g) (T := s.heap.objs.size + 1) (ob := .tup [.int (i : Nat), .ref s.heap.objs.size]) (fun c o n q => keep (fun z => n (by rw [z]; exact List.mem_singleton.mpr rfl)) q) (fun c hm => hf1 c (by rw [List.mem_singleton.mp hm]; exact List.mem_cons_self)) (by show h1.objs.size ≤ _; rw [sz]; exact Nat.le_refl _) ⟨by show 2 ≤ sizeLine; decide, [.int ((i : Nat) : Int) k1, .ref s.heap.objs.size], .cons ⟨_, rfl⟩ (.cons rfl .nil), ⟨_, (sg.2 _ nU).trans eT, rfl, _, rfl⟩⟩
    refine ⟨.ref (s.heap.objs.size + 1), _, J2, rfl, ⟨_, _, x, y, rfl, I.hok.fresh (Nat.le_refl _), tT2, rfl, fun l hl => (I.tuple_inj hl hqx).symm ▸ hx, fun l hl => (I.tuple_inj hl hqy).symm ▸ hy⟩, ⟨⟨_, by have := ge; push_cast; exact this⟩, ⟨v2, fl2, keep (Ne.symm ne.1) z2, ov2⟩, ?_, ⟨c1, c2, keep (Ne.symm ne.2.2.1) o2⟩, r1.1.at fun _ => keep (Ne.symm ne.2.2.2.1), r2.1.at fun _ => keep (Ne.symm ne.2.2.2.2)⟩, fun c hm => ?_⟩
    · exact keep (Ne.symm ne.2.1) (old1 _ _ D.TIz D.TITO D.TIi1 D.TIi2 t.ins)
    · have q := (hf1 c hm).1
      have lt : c < s.heap.objs.size := by
        have := six_all (e := e) (z := z) (TI := TI) (TO := TO) (i1 := i1) (i2 := i2) (R := fun c => c < s.heap.objs.size) el zl (Heap.lt_size t.ins) (Heap.lt_size hO) (let ⟨_, q, _⟩ := t.one; Heap.lt_size q) (let ⟨_, q, _⟩ := t.two; Heap.lt_size q)
        exact this c hm
      rw [upd_ne (Nat.ne_of_lt (Nat.lt_succ_of_lt lt))]
      exact q
  · rintro X rfl rfl rfl hc i pins s σ H E I hf t ⟨xs, ys, hqx, hqy, le1, le2, hend⟩
    obtain ⟨us, rx, p, _⟩ := I.tuple hqx
    obtain ⟨vs, ry, p', _⟩ := I.tuple hqy
    have m1 := rx.length
    have m2 := ry.length
    obtain ⟨old, hen⟩ := t.en
    obtain ⟨zv, fl, hz, hov⟩ := t.zip
    obtain ⟨_, _, hO⟩ := t.outs
    have hd1 : X.A.in1.in1.handled = none := I.ok.hd hc
    refine ez_end (sep_apartT D) (Draws.tuple hd1 i1 a D.l1i1 us.toArray) (Draws.tuple hd1 i2 b D.l2i2 vs.toArray) hen hz hov t.ins hO ⟨t.one, p⟩ ⟨t.two, p'⟩ (by rw [List.size_toArray]; omega) (by rw [List.size_toArray]; omega) (by rw [List.size_toArray, List.size_toArray]; omega) fun h' tk kp => ⟨rfl, ?_⟩
    exact I.turnedL (t' := tk) (ch := [e, z, TI, TO, i1, i2]) (fun c o n q => by
      simp only [List.mem_cons, List.not_mem_nil, or_false, not_or] at n
      exact kp c o n.2.1 n.2.2.2.1 n.2.2.2.2.1 n.2.2.2.2.2 q) hf
  · obtain ⟨old, hen⟩ := t.en
    exact wpAny_pyIter_enum hen
def iEnumZip (K : PySem.W.Frag) (ta : TA) : TI := fun σ H R => ta σ H fun vs H1 => ∃ a b xs ys, vs = [.ref a, .ref b] ∧ SqT K H1 a xs ∧ SqT K H1 b ys ∧ R (ItEZ K a b) H1
theorem pi_enumZip {X : Cx} {e1 e2 : Expr} {ta : TA} {p p2 q pos tpos : Pos} {elts : List Expr} {kk : Nat} (hg : Gl X "enumerate") (hm : X.mg "enumerate" = none) (hg2 : Gl X "zip") (hm2 : X.mg "zip" = none) (ha : PA X [e1, e2] ta)
    (hs : starEach [e1, e2] X.env = (false, eval e1 X.env) :: starEach [e2] X.env) (hpl : (backTo q (starEach [e2] X.env)).any (·.1) = false) :
    PI X (.Tuple elts kk tpos) (.Call (.Name "enumerate" p) [.Call (.Name "zip" p2) [e1, e2] [] q] [] pos) (iEnumZip X.K ta) := by
  constructor
  intro pins s σ H R I h
  refine Call_ (ld_blt I hg hm boot_enumerate ?_)
  refine PyProof.Rows.callWith_type1 (PyProof.Rows.args_cons ?_ rfl) rfl rfl
  refine Call_ (ld_blt I hg2 hm2 PyProof.Rows.boot_zip (PyProof.Rows.callWith_type1 (thn (ha.run q pins s σ H _ I h) ?_) hs hpl))
  rintro us s1 ⟨vs, H1, I1, r1, a, b, xs, ys, rfl, hqx, hqy, qq⟩
  obtain ⟨us, rv, p1, _⟩ := I1.tuple hqx
  obtain ⟨vs, rv', p2', _⟩ := I1.tuple hqy
  rcases r1 with _ | ⟨ra, _ | ⟨rb, _ | _⟩⟩
  cases ra
  cases rb
  have la : a < s1.heap.objs.size := let ⟨_, q, _⟩ := p1; Heap.lt_size q
  have lb : b < s1.heap.objs.size := let ⟨_, q, _⟩ := p2'; Heap.lt_size q
  refine zip_begins2 (begins_tuple a us.toArray) (begins_tuple b vs.toArray) p1 p2' fun g gz gI gO g1 g2 gs gk => PyProof.Rows.args_nil ?_
  have new : ∀ k, FpOk X pins H1 (s1.heap.objs.size + k) := fun k => I1.fpOk (Nat.le_add_right _ _) (I1.hok.fresh (Nat.le_add_right _ _))
  refine call_enumZ (s := { s1 with heap := g }) gz fun g' ge gk' => wpAny_pyIter_enum ge ?_
  have sz : ({ s1 with heap := g } : Shared).heap.objs.size = s1.heap.objs.size + 5 := gs
  rw [sz] at ge ⊢
  refine ⟨_, _, _, _, H1, rfl, I1.kept (t' := s1.toks) (fun c o q => gk' c o (gk c o q)), turn_ez (PySem.W.ktu_apart s1.heap.objs.size a b la lb) ⟨?_, ?_, ?_, ?_, ?_⟩ ⟨Nat.ne_of_gt (Nat.lt_add_right 5 la), Nat.ne_of_gt (Nat.lt_add_right 5 lb)⟩, ⟨⟨_, ge⟩, ⟨_, _, gk' _ _ gz, .inl rfl⟩, gk' _ _ gI, ⟨_, _, gk' _ _ gO⟩, ⟨_, gk' _ _ g1, rfl, rfl⟩, ⟨_, gk' _ _ g2, rfl, rfl⟩⟩, six_all (new 5) (new 4) (new 2) (new 3) (new 0) (new 1), qq⟩
  all_goals (show (_ : Nat) ≠ _; omega)
/-! ### text * number -/
def rMulS : R2 := fun x y H Q => ∃ (z : Str) (n : Int), x = .str z ∧ y = .int n ∧ MulOk z n ∧ Q (.str (Txt.mul z n)) H
theorem op_mulS {X : Cx} : OpR X (binaryOp .Mult) rMulS := by
  intro pins s σ H x y v u Q I rx ry h
  obtain ⟨z, n, rfl, rfl, hok, q⟩ := h
  obtain ⟨t, rfl⟩ := rx
  obtain ⟨t', rfl⟩ := ry
  exact SB.mul hok fun t2 k => ⟨.str (Txt.mul z n), H, I.tok _, ⟨_, rfl⟩, q⟩
theorem mul_t {n : Int} (h0 : 0 ≤ n) (h1 : n < 4) : MulOk "t" n ∧ PyData.strOk (Txt.mul "t" n) = true := by
  have : n = 0 ∨ n = 1 ∨ n = 2 ∨ n = 3 := by omega
  rcases this with rfl | rfl | rfl | rfl
  · exact ⟨⟨by decide +kernel, by decide +kernel, by decide +kernel⟩, by decide +kernel⟩
  · exact ⟨⟨by decide +kernel, by decide +kernel, by decide +kernel⟩, by decide +kernel⟩
  · exact ⟨⟨by decide +kernel, by decide +kernel, by decide +kernel⟩, by decide +kernel⟩
  · exact ⟨⟨by decide +kernel, by decide +kernel, by decide +kernel⟩, by decide +kernel⟩
/-- a number or a text -/
def Pl (v : V) : Prop := (∃ i, v = .int i) ∨ ∃ z, v = .str z ∧ PyData.strOk z = true
theorem Pl.any {N : Addr → Prop} {n : Nat} {H : Hp} {v : V} (h : Pl v) : AnyF N n H v := by
  rcases h with ⟨i, rfl⟩ | ⟨z, rfl, hz⟩
  · exact ⟨_, .int i, flat_int i⟩
  · exact ⟨_, .str z, flat_str hz⟩
theorem pickV_all (xs : List V) : pickV xs (iota (xs.length : Int)) = xs := by
  refine List.ext_getElem? fun i => ?_
  unfold pickV
  rw [List.getElem?_map]
  by_cases hi : i < xs.length
  · rw [iota_get (by omega), List.getElem?_eq_getElem hi]
    show some (xs.getD ((i : Int)).toNat .non) = _
    rw [Int.toNat_natCast, List.getD_eq_getElem?_getD, List.getElem?_eq_getElem hi]
    rfl
  · rw [List.getElem?_eq_none (by rw [iota_len]; omega), List.getElem?_eq_none (by omega)]
    rfl
/-! ### crates joined -/
def rightW (ws us : List Int) : List (Int × List Int) := (idleW us).map fun p => ((ws.length : Int) + p.1, p.2)
theorem right_len (ws us : List Int) : (rightW ws us).length = us.length := by unfold rightW; rw [List.length_map, idle_len]
theorem right_get {ws us : List Int} {i : Nat} {x : Int} (h : us[i]? = some x) : (rightW ws us)[i]? = some ((ws.length : Int) + (i : Int), iota x) := by
  unfold rightW
  rw [List.getElem?_map, idle_get h]
  rfl
theorem left_ok {ws us : List Int} (hw : ∀ x ∈ ws, 0 ≤ x) : WayOk ws (ws ++ us) (idleW ws) := by
  obtain ⟨h1, h2⟩ := idle_ok hw
  refine ⟨h1, fun i p x e1 e2 => ?_⟩
  obtain ⟨a, b, c, d⟩ := h2 i p x e1 e2
  refine ⟨a, by rw [List.length_append]; omega, ?_, d⟩
  rw [List.getElem?_append_left (by omega)]
  exact c
theorem right_ok {ws us : List Int} (hu : ∀ x ∈ us, 0 ≤ x) : WayOk us (ws ++ us) (rightW ws us) := by
  refine ⟨right_len ws us, fun i p x e1 e2 => ?_⟩
  rw [right_get e2] at e1
  cases e1
  have h0 := hu x (List.mem_of_getElem? e2)
  have hi := (List.getElem?_eq_some_iff.mp e2).1
  refine ⟨by show (0 : Int) ≤ (ws.length : Int) + (i : Int); omega, by show (ws.length : Int) + (i : Int) < _; rw [List.length_append]; omega, ?_, iota_below x⟩
  show (ws ++ us)[((ws.length : Int) + (i : Int)).toNat]? = some (((iota x).length : Nat) : Int)
  rw [show ((ws.length : Int) + (i : Int)).toNat = ws.length + i by omega, List.getElem?_append_right (by omega), Nat.add_sub_cancel_left, e2, iota_len]
  congr 1
  omega
theorem pick_id {x : Int} {p : Int × List Int} (h : ∀ y ∈ p.2, 0 ≤ y ∧ y < x) : (p.1, p.2.map (pick (iota x))) = p := by
  refine Prod.ext rfl ?_
  show p.2.map (pick (iota x)) = p.2
  refine (List.map_congr_left fun y hy => ?_).trans (List.map_id _)
  exact pick_iota (h y hy).1 (h y hy).2
theorem then_left {ws vs : List Int} {v w : List (Int × List Int)} (hv : WayOk ws vs v) : thenW (idleW ws) (v ++ w) = v := by
  refine List.ext_getElem? fun i => ?_
  by_cases hi : i < ws.length
  · have g : ws[i]? = some ws[i] := List.getElem?_eq_getElem hi
    have hiv : i < v.length := by rw [hv.1]; exact hi
    have gv : v[i]? = some v[i] := List.getElem?_eq_getElem hiv
    rw [then_get (idle_get g), step_some (w := v ++ w) (p := ((i : Int), iota ws[i])) (q := v[i]) (by show (v ++ w)[((i : Int)).toNat]? = _; rw [Int.toNat_natCast, List.getElem?_append_left hiv]; exact gv), gv]
    exact congrArg some (pick_id (hv.2 i _ _ gv g).2.2.2)
  · rw [List.getElem?_eq_none (by rw [then_len, idle_len]; omega), List.getElem?_eq_none (by rw [hv.1]; omega)]
theorem then_right {ws us vs : List Int} {v w : List (Int × List Int)} (hv : v.length = ws.length) (hw : WayOk us vs w) : thenW (rightW ws us) (v ++ w) = w := by
  refine List.ext_getElem? fun i => ?_
  by_cases hi : i < us.length
  · have g : us[i]? = some us[i] := List.getElem?_eq_getElem hi
    have hiw : i < w.length := by rw [hw.1]; exact hi
    have gw : w[i]? = some w[i] := List.getElem?_eq_getElem hiw
    rw [then_get (right_get g), step_some (w := v ++ w) (p := ((ws.length : Int) + (i : Int), iota us[i])) (q := w[i]) (by show (v ++ w)[((ws.length : Int) + (i : Int)).toNat]? = _; rw [show ((ws.length : Int) + (i : Int)).toNat = v.length + i by omega, List.getElem?_append_right (by omega), Nat.add_sub_cancel_left]; exact gw), gw]
    exact congrArg some (pick_id (hw.2 i _ _ gw g).2.2.2)
  · rw [List.getElem?_eq_none (by rw [then_len, right_len]; omega), List.getElem?_eq_none (by rw [hw.1]; omega)]
theorem eqv_crate (a b : List Int) : PyData.eqv (.tuple (a.map PyData.int)) (.tuple (b.map PyData.int)) = decide (a = b) := by
  rw [show PyData.eqv (.tuple (a.map PyData.int)) (.tuple (b.map PyData.int)) = PyData.eqvAll (a.map PyData.int) (b.map PyData.int) by simp only [PyData.eqv]]
  exact eqvAll_ints a b
/-- the crate, or the refusal by the bounds -/
def spBound (C : Addr) : Sp := fun vs H Q E => ∃ (t : Addr) (ws : List Int), vs = [.ref t] ∧ H t = some (.tup (ws.map V.int)) ∧ (crateD (.tuple (ws.map PyData.int)) = false → ∀ H', Same H H' → E (.ref C) none H') ∧ (crateD (.tuple (ws.map PyData.int)) = true → ∀ H', Same H H' → Q (.ref t) H')
def spJoin (C : Addr) : Sp := fun vs H Q E => ∃ (t1 t2 : Addr) (ws us : List Int), vs = [.ref t1, .ref t2] ∧ H t1 = some (.tup (ws.map V.int)) ∧ H t2 = some (.tup (us.map V.int)) ∧ ws.length ≤ 400 ∧ us.length ≤ 400 ∧ (crateD (.tuple ((ws ++ us).map PyData.int)) = false → ∀ H', Same H H' → E (.ref C) none H') ∧ (crateD (.tuple ((ws ++ us).map PyData.int)) = true → ∀ t H', Same H H' → H' t = some (.tup ((ws ++ us).map V.int)) → Q (.ref t) H')
def spLeft : Sp := fun vs H Q _ => ∃ (t1 t2 : Addr) (ws : List Int), vs = [.ref t1, .ref t2] ∧ H t1 = some (.tup (ws.map V.int)) ∧ ws.length ≤ 60 ∧ (∀ x ∈ ws, 0 ≤ x ∧ x ≤ 12) ∧ ∀ a H', Same H H' → Way H' a (idleW ws) → Q (.ref a) H'
def spRightW : Sp := fun vs H Q _ => ∃ (t1 t2 : Addr) (ws us : List Int), vs = [.ref t1, .ref t2] ∧ H t1 = some (.tup (ws.map V.int)) ∧ H t2 = some (.tup (us.map V.int)) ∧ us.length ≤ 60 ∧ (∀ x ∈ us, 0 ≤ x ∧ x ≤ 12) ∧ ∀ a H', Same H H' → Way H' a (rightW ws us) → Q (.ref a) H'
def spJoinW : Sp := fun vs H Q _ => ∃ (a b : Addr) (v w : List (Int × List Int)), vs = [.ref a, .ref b] ∧ Way H a v ∧ Way H b w ∧ v.length + w.length ≤ 1000 ∧ ∀ c H', Same H H' → Way H' c (v ++ w) → Q (.ref c) H'
theorem r_rep {K : PySem.W.Frag} {H : Hp} {l : Addr} {x k : Int} {Q : V → Hp → Prop} (e : H l = some (.tup [.int x])) (k0 : 0 ≤ k) (k1 : k ≤ 1000) (q : ∀ c H', Same H H' → H' c = some (.tup ((List.replicate k.toNat x).map V.int)) → Q (.ref c) H') : rRepA K (.ref l) (.int k) H Q := by
  have e1 : (List.replicate k.toNat [V.int x]).flatten = (List.replicate k.toNat x).map V.int := by
    rw [List.map_replicate]
    generalize k.toNat = n
    induction n with
    | zero => rfl
    | succ n ih => rw [List.replicate_succ, List.replicate_succ, List.flatten_cons, ih]; rfl
  refine ⟨l, k, [.int x], rfl, rfl, SqT.of e, (fun z => by cases z), k0, k1, (show 1 ≤ 1000 by decide), fun h => q l H same_refl ?_, fun _ p hp => q p _ (same_upd hp) ?_⟩
  · rw [h]
    exact e
  · rw [upd_same, e1]
theorem crateD_big {ws : List Int} (h : 60 < ws.length) : crateD (.tuple (ws.map PyData.int)) = false := by
  show (decide ((ws.map PyData.int).length ≤ 60) && _) = false
  rw [List.length_map, decide_eq_false (by omega), Bool.false_and]
/-- a filling led to its place with all things -/
def spLRight : Sp := fun vs H Q _ => ∃ (wv t : Addr) (cs : List Int) (wy : List (Int × List Int)) (i : Nat) (st c x : Int), vs = [.ref wv, .int (i : Int), .int st, .ref t, .int c] ∧ Way H wv wy ∧ H t = some (.tup (cs.map V.int)) ∧ cs[i]? = some x ∧ 0 ≤ x ∧ x ≤ 12 ∧ wy[i]? = some (st + (i : Int), iota x) ∧ 0 ≤ c ∧ ∀ H', Same H H' → Q (.bl true) H'
/-- what is refused is refused -/
def spRefused : Sp := fun vs H Q _ => ∃ (t1 t2 : Addr) (ws us : List Int), vs = [.ref t1, .ref t2] ∧ H t1 = some (.tup (ws.map V.int)) ∧ H t2 = some (.tup (us.map V.int)) ∧ ws.length ≤ 400 ∧ us.length ≤ 400 ∧ crateD (.tuple ((ws ++ us).map PyData.int)) = false ∧ ∀ H', Same H H' → Q (.bl true) H'
/-! ### rows of rows -/
theorem flat_lenN {α β : Type} {f : α → List β} {n : Nat} : ∀ {l : List α}, (∀ x ∈ l, (f x).length = n) → (l.flatMap f).length = l.length * n
  | [], _ => by simp
  | x :: l, h => by
    rw [List.flatMap_cons, List.length_append, h x List.mem_cons_self, flat_lenN fun y hy => h y (List.mem_cons_of_mem _ hy), List.length_cons, Nat.add_mul, Nat.one_mul, Nat.add_comm]
theorem flat_get {α β : Type} {f : α → List β} {n : Nat} : ∀ {l : List α} {i j : Nat} {x : α}, (∀ x ∈ l, (f x).length = n) → l[i]? = some x → j < n → (l.flatMap f)[i * n + j]? = (f x)[j]?
  | [], i, j, x, _, h, _ => by simp at h
  | y :: l, 0, j, x, hl, h, hj => by
    cases h
    rw [List.flatMap_cons, Nat.zero_mul, Nat.zero_add, List.getElem?_append_left (by rw [hl y List.mem_cons_self]; exact hj)]
  | y :: l, i + 1, j, x, hl, h, hj => by
    rw [List.flatMap_cons, List.getElem?_append_right (by rw [hl y List.mem_cons_self, Nat.add_mul]; omega), hl y List.mem_cons_self, show (i + 1) * n + j - n = i * n + j by rw [Nat.add_mul]; omega]
    exact flat_get (fun z hz => hl z (List.mem_cons_of_mem _ hz)) h hj
theorem flat_ix {n m k : Nat} (h : k < m * n) : ∃ i j, i < m ∧ j < n ∧ k = i * n + j := by
  have hn : 0 < n := by
    rcases Nat.eq_zero_or_pos n with z | z
    · rw [z, Nat.mul_zero] at h
      omega
    · exact z
  refine ⟨k / n, k % n, ?_, Nat.mod_lt _ hn, ?_⟩
  · exact (Nat.div_lt_iff_lt_mul hn).mpr h
  · have := Nat.div_add_mod k n
    rw [Nat.mul_comm] at this
    omega
/-! ### crates multiplied -/
def mulC (ws us : List Int) : List Int := ws.flatMap fun x => us.map fun y => x + y
def leftP (ws us : List Int) : List (Int × List Int) := (idleW ws).flatMap fun p => us.map fun _ => p
def rightP (ws us : List Int) : List (Int × List Int) := ws.flatMap fun x => (idleW us).map fun p => (p.1, p.2.map fun y => x + y)
def pairW (us : List Int) (v w : List (Int × List Int)) : List (Int × List Int) := List.zipWith (fun p q => (p.1 * (us.length : Int) + q.1, p.2 ++ q.2)) v w
theorem mul_len (ws us : List Int) : (mulC ws us).length = ws.length * us.length := flat_lenN fun x _ => List.length_map ..
theorem left_lenP (ws us : List Int) : (leftP ws us).length = ws.length * us.length := by
  have := flat_lenN (l := idleW ws) (f := fun p => us.map fun _ => p) (n := us.length) fun x _ => List.length_map ..
  rw [idle_len] at this
  exact this
theorem right_lenP (ws us : List Int) : (rightP ws us).length = ws.length * us.length := flat_lenN fun x _ => by rw [List.length_map, idle_len]
theorem mul_get {ws us : List Int} {i j : Nat} {x y : Int} (h1 : ws[i]? = some x) (h2 : us[j]? = some y) : (mulC ws us)[i * us.length + j]? = some (x + y) := by
  have hj := (List.getElem?_eq_some_iff.mp h2).1
  unfold mulC
  rw [flat_get (n := us.length) (fun x _ => List.length_map ..) h1 hj, List.getElem?_map, h2]
  rfl
theorem left_getP {ws us : List Int} {i j : Nat} {x y : Int} (h1 : ws[i]? = some x) (h2 : us[j]? = some y) : (leftP ws us)[i * us.length + j]? = some ((i : Int), iota x) := by
  have hj := (List.getElem?_eq_some_iff.mp h2).1
  unfold leftP
  rw [flat_get (n := us.length) (fun x _ => List.length_map ..) (idle_get h1) hj, List.getElem?_map, h2]
  rfl
theorem right_getP {ws us : List Int} {i j : Nat} {x y : Int} (h1 : ws[i]? = some x) (h2 : us[j]? = some y) : (rightP ws us)[i * us.length + j]? = some ((j : Int), (iota y).map fun z => x + z) := by
  have hj := (List.getElem?_eq_some_iff.mp h2).1
  unfold rightP
  rw [flat_get (n := us.length) (fun x _ => by rw [List.length_map, idle_len]) h1 hj, List.getElem?_map, idle_get h2]
  rfl
theorem mul_ix {ws us : List Int} {k : Nat} {z : Int} (h : (mulC ws us)[k]? = some z) : ∃ i j x y, ws[i]? = some x ∧ us[j]? = some y ∧ k = i * us.length + j ∧ z = x + y := by
  have hk := (List.getElem?_eq_some_iff.mp h).1
  rw [mul_len] at hk
  obtain ⟨i, j, hi, hj, rfl⟩ := flat_ix hk
  have h1 : ws[i]? = some ws[i] := List.getElem?_eq_getElem hi
  have h2 : us[j]? = some us[j] := List.getElem?_eq_getElem hj
  rw [mul_get h1 h2] at h
  exact ⟨i, j, _, _, h1, h2, rfl, (Option.some.inj h).symm⟩
theorem leftP_ok {ws us : List Int} (hw : ∀ x ∈ ws, 0 ≤ x) (hu : ∀ x ∈ us, 0 ≤ x) : WayOk (mulC ws us) ws (leftP ws us) := by
  refine ⟨by rw [left_lenP, mul_len], fun k p z h1 h2 => ?_⟩
  obtain ⟨i, j, x, y, g1, g2, rfl, rfl⟩ := mul_ix h2
  rw [left_getP g1 g2] at h1
  cases h1
  have f := plain_fill hw g1
  have hy := hu y (List.mem_of_getElem? g2)
  refine ⟨f.1, f.2.1, f.2.2.1, fun t ht => ?_⟩
  have := f.2.2.2 t ht
  omega
theorem rightP_ok {ws us : List Int} (hw : ∀ x ∈ ws, 0 ≤ x) (hu : ∀ x ∈ us, 0 ≤ x) : WayOk (mulC ws us) us (rightP ws us) := by
  refine ⟨by rw [right_lenP, mul_len], fun k p z h1 h2 => ?_⟩
  obtain ⟨i, j, x, y, g1, g2, rfl, rfl⟩ := mul_ix h2
  rw [right_getP g1 g2] at h1
  cases h1
  have f := plain_fill hu g2
  have hx := hw x (List.mem_of_getElem? g1)
  refine ⟨f.1, f.2.1, by rw [List.length_map]; exact f.2.2.1, fun t ht => ?_⟩
  obtain ⟨t', ht', rfl⟩ := List.mem_map.mp ht
  have := f.2.2.2 t' ht'
  omega
theorem pair_lenW {us : List Int} {v w : List (Int × List Int)} (h : v.length = w.length) : (pairW us v w).length = v.length := by
  unfold pairW
  rw [List.length_zipWith]
  omega
theorem pair_getW {us : List Int} {v w : List (Int × List Int)} {i : Nat} {p q : Int × List Int} (h1 : v[i]? = some p) (h2 : w[i]? = some q) : (pairW us v w)[i]? = some (p.1 * (us.length : Int) + q.1, p.2 ++ q.2) := by
  unfold pairW
  rw [List.getElem?_zipWith, h1, h2]
theorem pair_place {n : Nat} {a b : Int} (a0 : 0 ≤ a) (b0 : 0 ≤ b) : (a * (n : Int) + b).toNat = a.toNat * n + b.toNat := by
  obtain ⟨a', rfl⟩ : ∃ a' : Nat, a = (a' : Int) := ⟨a.toNat, by omega⟩
  obtain ⟨b', rfl⟩ : ∃ b' : Nat, b = (b' : Int) := ⟨b.toNat, by omega⟩
  rw [Int.toNat_natCast, Int.toNat_natCast, ← Int.natCast_mul, ← Int.natCast_add, Int.toNat_natCast]
theorem pairW_ok {ts ws us : List Int} {v w : List (Int × List Int)} (hv : WayOk ts ws v) (hw : WayOk ts us w) : WayOk ts (mulC ws us) (pairW us v w) := by
  have hl : v.length = w.length := by rw [hv.1, hw.1]
  refine ⟨by rw [pair_lenW hl, hv.1], fun i p x h1 h2 => ?_⟩
  have hi : i < ts.length := (List.getElem?_eq_some_iff.mp h2).1
  have g1 : v[i]? = some (v[i]'(by rw [hv.1]; exact hi)) := List.getElem?_eq_getElem _
  have g2 : w[i]? = some (w[i]'(by rw [hw.1]; exact hi)) := List.getElem?_eq_getElem _
  rw [pair_getW g1 g2] at h1
  cases h1
  obtain ⟨a0, a1, a2, a3⟩ := hv.2 _ _ _ g1 h2
  obtain ⟨b0, b1, b2, b3⟩ := hw.2 _ _ _ g2 h2
  refine ⟨Int.add_nonneg (Int.mul_nonneg a0 (by omega)) b0, ?_, ?_, fun y hy => ?_⟩
  · rw [mul_len]
    obtain ⟨a', ha'⟩ : ∃ a' : Nat, (v[i]'(by rw [hv.1]; exact hi)).1 = (a' : Int) := ⟨_, (Int.toNat_of_nonneg a0).symm⟩
    show (v[i]'(by rw [hv.1]; exact hi)).1 * (us.length : Int) + _ < _
    have h3 : ((v[i]'(by rw [hv.1]; exact hi)).1 + 1) * (us.length : Int) ≤ (ws.length : Int) * (us.length : Int) := Int.mul_le_mul_of_nonneg_right (by omega) (by omega)
    rw [Int.add_mul, Int.one_mul] at h3
    push_cast
    omega
  · rw [pair_place a0 b0, mul_get a2 b2, List.length_append]
    push_cast
    rfl
  · rcases List.mem_append.mp hy with hy | hy
    · exact a3 y hy
    · exact b3 y hy
theorem map_pick_app (r t : List Int) : (iota ((r.length : Nat) : Int)).map (pick (r ++ t)) = r := by
  refine List.ext_getElem? fun i => ?_
  by_cases hi : i < r.length
  · rw [List.getElem?_map, iota_get (by omega)]
    have := pick_in (r := r ++ t) (y := (i : Int)) (by omega) (by rw [List.length_append]; omega)
    rw [Int.toNat_natCast, List.getElem?_append_left hi] at this
    rw [this]
    rfl
  · rw [List.getElem?_eq_none (by rw [List.length_map, iota_len]; omega), List.getElem?_eq_none (by omega)]
theorem map_pick_app2 (r t : List Int) : ((iota ((t.length : Nat) : Int)).map fun z => ((r.length : Nat) : Int) + z).map (pick (r ++ t)) = t := by
  refine List.ext_getElem? fun i => ?_
  by_cases hi : i < t.length
  · rw [List.getElem?_map, List.getElem?_map, iota_get (by omega)]
    have := pick_in (r := r ++ t) (y := ((r.length : Nat) : Int) + (i : Int)) (by omega) (by rw [List.length_append]; omega)
    rw [show (((r.length : Nat) : Int) + (i : Int)).toNat = r.length + i by omega, List.getElem?_append_right (by omega), Nat.add_sub_cancel_left] at this
    rw [this]
    rfl
  · rw [List.getElem?_eq_none (by rw [List.length_map, List.length_map, iota_len]; omega), List.getElem?_eq_none (by omega)]
theorem then_leftP {ts ws us : List Int} {v w : List (Int × List Int)} (hv : WayOk ts ws v) (hw : WayOk ts us w) : thenW (pairW us v w) (leftP ws us) = v := by
  have hl : v.length = w.length := by rw [hv.1, hw.1]
  refine List.ext_getElem? fun i => ?_
  by_cases hi : i < ts.length
  · have hts : ts[i]? = some ts[i] := List.getElem?_eq_getElem hi
    have g1 : v[i]? = some (v[i]'(by rw [hv.1]; exact hi)) := List.getElem?_eq_getElem _
    have g2 : w[i]? = some (w[i]'(by rw [hw.1]; exact hi)) := List.getElem?_eq_getElem _
    generalize (v[i]'(by rw [hv.1]; exact hi)) = p at g1
    generalize (w[i]'(by rw [hw.1]; exact hi)) = q at g2
    obtain ⟨a0, a1, a2, a3⟩ := hv.2 _ _ _ g1 hts
    obtain ⟨b0, b1, b2, b3⟩ := hw.2 _ _ _ g2 hts
    rw [then_get (pair_getW g1 g2), step_some (w := leftP ws us) (q := ((p.1.toNat : Int), iota ((p.2.length : Nat) : Int))) (by rw [pair_place a0 b0]; exact left_getP a2 b2), g1]
    refine congrArg some (Prod.ext ?_ (map_pick_app _ _))
    show ((p.1.toNat : Nat) : Int) = p.1
    omega
  · rw [List.getElem?_eq_none (by rw [then_len, pair_lenW hl, hv.1]; omega), List.getElem?_eq_none (by rw [hv.1]; omega)]
theorem then_rightP {ts ws us : List Int} {v w : List (Int × List Int)} (hv : WayOk ts ws v) (hw : WayOk ts us w) : thenW (pairW us v w) (rightP ws us) = w := by
  have hl : v.length = w.length := by rw [hv.1, hw.1]
  refine List.ext_getElem? fun i => ?_
  by_cases hi : i < ts.length
  · have hts : ts[i]? = some ts[i] := List.getElem?_eq_getElem hi
    have g1 : v[i]? = some (v[i]'(by rw [hv.1]; exact hi)) := List.getElem?_eq_getElem _
    have g2 : w[i]? = some (w[i]'(by rw [hw.1]; exact hi)) := List.getElem?_eq_getElem _
    generalize (v[i]'(by rw [hv.1]; exact hi)) = p at g1
    generalize (w[i]'(by rw [hw.1]; exact hi)) = q at g2
    obtain ⟨a0, a1, a2, a3⟩ := hv.2 _ _ _ g1 hts
    obtain ⟨b0, b1, b2, b3⟩ := hw.2 _ _ _ g2 hts
    rw [then_get (pair_getW g1 g2), step_some (w := rightP ws us) (q := ((q.1.toNat : Int), (iota ((q.2.length : Nat) : Int)).map fun z => ((p.2.length : Nat) : Int) + z)) (by rw [pair_place a0 b0]; exact right_getP a2 b2), g2]
    refine congrArg some (Prod.ext ?_ (map_pick_app2 _ _))
    show ((q.1.toNat : Nat) : Int) = q.1
    omega
  · rw [List.getElem?_eq_none (by rw [then_len, pair_lenW hl, hv.1]; omega), List.getElem?_eq_none (by rw [hw.1]; omega)]
theorem mul_bound {ws us : List Int} {a b : Int} (hw : ∀ x ∈ ws, 0 ≤ x ∧ x ≤ a) (hu : ∀ x ∈ us, 0 ≤ x ∧ x ≤ b) : ∀ x ∈ mulC ws us, 0 ≤ x ∧ x ≤ a + b := fun z hz => by
  obtain ⟨k, hk⟩ := List.getElem?_of_mem hz
  obtain ⟨i, j, x, y, g1, g2, _, rfl⟩ := mul_ix hk
  have h1 := hw x (List.mem_of_getElem? g1)
  have h2 := hu y (List.mem_of_getElem? g2)
  omega
/-! ### the walks of a comprehension with two fors -/
theorem out_tup {K : PySem.W.Frag} {a : Addr} {xs : List V} {D : Addr} {H1 : Hp} {Qd : Hp → Prop} {body : (Hp → Prop) → V → Hp → Prop} (Pv : Nat → Hp → Prop) (h0 : Pv 0 (upd H1 D (.lst []))) (hl : ∀ i H, i ≤ xs.length → Pv i H → SqT K H a xs)
    (hs : ∀ i x H, xs[i]? = some x → Pv i H → body (Pv (i + 1)) x H) (hd : ∀ H, Pv xs.length H → Qd H) :
    ∃ W : Nat → Nat → Hp → Prop, (∃ m, W 0 m (upd H1 D (.lst []))) ∧ ∀ i m H, W i m H → ((Itt K a).stop i H ∧ Qd H) ∨ ((Itt K a).go i H ∧ ∃ Nx : Hp → Prop, (∀ H', Nx H' → ∃ m', m' < m ∧ W (i + 1) m' H') ∧ ∀ x H', (Itt K a).yld i H x H' → body Nx x H') := by
  refine ⟨fun i m H => m = xs.length - i ∧ i ≤ xs.length ∧ Pv i H, ⟨xs.length, by omega, Nat.zero_le _, h0⟩, fun i m H hW => ?_⟩
  obtain ⟨rfl, hi, p⟩ := hW
  have q := hl i H hi p
  by_cases hlt : i < xs.length
  · refine .inr ⟨⟨xs, xs[i], q, by simp [hlt]⟩, Pv (i + 1), fun H' p' => ⟨xs.length - (i + 1), by omega, rfl, hlt, p'⟩, fun x H' y => ?_⟩
    obtain ⟨e, y⟩ := y
    subst e
    exact hs i x _ (y xs q) p
  · obtain rfl : i = xs.length := by omega
    exact .inl ⟨⟨xs, q, Nat.le_refl _⟩, hd H p⟩
theorem in_tup {K : PySem.W.Frag} {a : Addr} {xs : List V} {g : TG} {tt : TT} {te : TE} {vs : List Nat} {σ : L2.St} {H4 : Hp} {D : Addr} {Nx : Hp → Prop} (Pv : Nat → Hp → Prop) (h0 : Pv 0 H4) (hl : ∀ i H, i ≤ xs.length → Pv i H → SqT K H a xs)
    (hs : ∀ j x H, xs[j]? = some x → Pv j H → g x (wipe σ vs) H fun σ3 H5 => wipe σ3 vs = wipe σ vs ∧ tt σ3 H5 fun b H6 => if b = true then te σ3 H6 fun y H7 => ∃ acc, H7 D = some (.lst acc) ∧ acc.length < sizeLine ∧ Pv (j + 1) (upd H7 D (.lst (acc ++ [y]))) else Pv (j + 1) H6)
    (hd : ∀ H, Pv xs.length H → Nx H) :
    ∃ W1 : Nat → Nat → Hp → Prop, (∃ m, W1 0 m H4) ∧ ∀ j k H, W1 j k H → ((Itt K a).stop j H ∧ Nx H) ∨ ((Itt K a).go j H ∧ ∃ Nx1 : Hp → Prop, (∀ H', Nx1 H' → ∃ k', k' < k ∧ W1 (j + 1) k' H') ∧ ∀ x H', (Itt K a).yld j H x H' → g x (wipe σ vs) H' fun σ3 H5 => wipe σ3 vs = wipe σ vs ∧ tt σ3 H5 fun b H6 =>
      if b = true then te σ3 H6 fun y H7 => ∃ acc, H7 D = some (.lst acc) ∧ acc.length < sizeLine ∧ Nx1 (upd H7 D (.lst (acc ++ [y]))) else Nx1 H6) := by
  refine ⟨fun j m H => m = xs.length - j ∧ j ≤ xs.length ∧ Pv j H, ⟨xs.length, by omega, Nat.zero_le _, h0⟩, fun j k H hW => ?_⟩
  obtain ⟨rfl, hj, p⟩ := hW
  have q := hl j H hj p
  by_cases hlt : j < xs.length
  · refine .inr ⟨⟨xs, xs[j], q, by simp [hlt]⟩, Pv (j + 1), fun H' p' => ⟨xs.length - (j + 1), by omega, rfl, hlt, p'⟩, fun x H' y => ?_⟩
    obtain ⟨e, y⟩ := y
    subst e
    exact hs j x _ (y xs q) p
  · obtain rfl : j = xs.length := by omega
    exact .inl ⟨⟨xs, q, Nat.le_refl _⟩, hd H p⟩
def lcScope : Expr → Scope
  | .ListComp _ _ sc _ => sc
  | _ => defScope (.Pass ⟨0, 0, 0, 0⟩)
def retArg (st : Stmt) : Expr := match defBody st with
  | [.Return (some (.Call _ [e] _ _)) _] => e
  | _ => .Name "" ⟨0, 0, 0, 0⟩
def spMulC (C : Addr) : Sp := fun vs H Q E => ∃ (t1 t2 : Addr) (ws us : List Int), vs = [.ref t1, .ref t2] ∧ H t1 = some (.tup (ws.map V.int)) ∧ H t2 = some (.tup (us.map V.int)) ∧ ws.length ≤ 30 ∧ us.length ≤ 30 ∧ (crateD (.tuple ((mulC ws us).map PyData.int)) = false → ∀ H', Same H H' → E (.ref C) none H') ∧ (crateD (.tuple ((mulC ws us).map PyData.int)) = true → ∀ t H', Same H H' → H' t = some (.tup ((mulC ws us).map V.int)) → Q (.ref t) H')
def spLeftP : Sp := fun vs H Q _ => ∃ (t1 t2 : Addr) (ws us : List Int), vs = [.ref t1, .ref t2] ∧ H t1 = some (.tup (ws.map V.int)) ∧ H t2 = some (.tup (us.map V.int)) ∧ ws.length ≤ 30 ∧ us.length ≤ 30 ∧ (∀ x ∈ ws, 0 ≤ x ∧ x ≤ 12) ∧ ∀ a H', Same H H' → Way H' a (leftP ws us) → Q (.ref a) H'
def spRightP : Sp := fun vs H Q _ => ∃ (t1 t2 : Addr) (ws us : List Int), vs = [.ref t1, .ref t2] ∧ H t1 = some (.tup (ws.map V.int)) ∧ H t2 = some (.tup (us.map V.int)) ∧ ws.length ≤ 30 ∧ us.length ≤ 30 ∧ (∀ x ∈ us, 0 ≤ x ∧ x ≤ 12) ∧ ∀ a H', Same H H' → Way H' a (rightP ws us) → Q (.ref a) H'
def spPairW : Sp := fun vs H Q _ => ∃ (t1 t2 a b : Addr) (us : List Int) (v w : List (Int × List Int)), vs = [.ref t1, .ref t2, .ref a, .ref b] ∧ H t2 = some (.tup (us.map V.int)) ∧ Way H a v ∧ Way H b w ∧ v.length = w.length ∧ v.length ≤ 100 ∧ (∀ p ∈ v, p.2.length ≤ 12) ∧ (∀ p ∈ w, p.2.length ≤ 12) ∧ (∀ p ∈ v, 0 ≤ p.1 ∧ p.1 ≤ 1000) ∧ us.length ≤ 1000 ∧ ∀ c H', Same H H' → Way H' c (pairW us v w) → Q (.ref c) H'
section
variable {X : Cx}
/-! ### a range as a value, and what is not in it -/
theorem cr_range1 : CallR X (.type "range") (fun vs H Q => ∃ j, vs = [V.int j] ∧ ∀ p, H p = none → Q (.ref p) (upd H p (.rng 0 j))) := by
  intro pins s σ H vs us Q I r h
  obtain ⟨j, rfl, q⟩ := h
  cases r with
  | cons rj rr =>
    cases rr
    obtain ⟨t, rfl⟩ := rj
    refine call_range_1 ⟨.ref s.heap.objs.size, upd H s.heap.objs.size (.rng 0 j), I.laid (fun b o e => Heap.get?_push_of_some _ e) (Nat.le_refl _) ?_, rfl, q _ (I.hok.fresh (Nat.le_refl _))⟩
    exact ⟨_, _, _, Heap.get?_push_size _ rfl⟩
theorem op_notin_rng : OpR X (compareOp .NotIn) (fun x y H Q => ∃ i a lo hi, x = V.int i ∧ y = V.ref a ∧ H a = some (.rng lo hi) ∧ Q (.bl (!decide (lo ≤ i ∧ i < hi))) H) := by
  intro pins s σ H x y v u Q I rx ry h
  obtain ⟨i, a, lo, hi, rfl, rfl, ha, q⟩ := h
  obtain ⟨k, rfl⟩ := rx
  obtain rfl : u = Value.ref a := ry
  obtain ⟨t1, t2, t3, ho⟩ := I.hok a _ ha
  show wpAny _ _ (do return Value.bool (!(← contains (Value.ref a) (Value.int i k)))) _ _ s
  refine wpAny_bind (wpAny_contains_slot (T := "range") ⟨_, ho, rfl⟩ F.slot_range_contains (call_meets F.slot_range_contains ⟨_, ho, rfl⟩ F.entry_range_contains (F.args_range_contains_2 _ _) (q_contains a lo hi i t1 t2 t3 k)
    ⟨ho, wpAny_truthy_bool (wpAny_pure ⟨.bl _, H, I, rfl, ?_⟩)⟩))
  rw [place1]
  exact q
end
/-! ### t[n:] -/
theorem r_drop {K : PySem.W.Frag} {σ : L2.St} {H : Hp} {a : Addr} {xs : List V} {n : Int} {Q : V → Hp → Prop} (ea : H a = some (.tup xs)) (n0 : 0 ≤ n) (n1 : n ≤ (xs.length : Int)) (q : ∀ c H', Same H H' → H' c = some (.tup (xs.drop n.toNat)) → Q (.ref c) H') : tNoPart σ H (fun u H3 => rSlA K (.ref a) (some n) u H3 Q) := by
  have e1 : HT.sIx xs.length 0 (some n) = n.toNat := by
    show (if n < 0 then (n + (xs.length : Int)).toNat else min n.toNat xs.length) = n.toNat
    rw [if_neg (by omega)]
    omega
  have e2 : cutV xs (some n) none = xs.drop n.toNat := by
    unfold cutV
    rw [e1, HT.sIx_none]
    exact List.take_of_length_le (by rw [List.length_drop]; omega)
  refine ⟨a, xs, rfl, SqT.of ea, fun h => q a H same_refl ?_, fun _ p hp => q p _ (same_upd hp) ?_⟩
  · rw [e1] at h
    rw [h.1]
    exact ea
  · rw [upd_same, e2]
/-! ### things of a product -/
theorem pickV_take {xs : List V} {x : Nat} (h : x ≤ xs.length) : pickV xs (iota (x : Int)) = xs.take x := by
  refine List.ext_getElem? fun i => ?_
  unfold pickV
  rw [List.getElem?_map]
  by_cases hi : i < x
  · rw [iota_get (by omega), List.getElem?_take_of_lt hi, List.getElem?_eq_getElem (by omega)]
    show some (xs.getD ((i : Int)).toNat .non) = _
    rw [Int.toNat_natCast, List.getD_eq_getElem?_getD, List.getElem?_eq_getElem (by omega)]
    rfl
  · rw [List.getElem?_eq_none (by rw [iota_len]; omega), List.getElem?_eq_none (by rw [List.length_take]; omega)]
    rfl
theorem pickV_drop {xs : List V} {x y : Nat} (h : x + y = xs.length) : pickV xs ((iota (y : Int)).map fun z => (x : Int) + z) = xs.drop x := by
  refine List.ext_getElem? fun i => ?_
  unfold pickV
  rw [List.getElem?_map, List.getElem?_map, List.getElem?_drop]
  by_cases hi : i < y
  · rw [iota_get (by omega), List.getElem?_eq_getElem (show x + i < xs.length by omega)]
    show some (xs.getD ((x : Int) + (i : Int)).toNat .non) = _
    rw [show ((x : Int) + (i : Int)).toNat = x + i by omega, List.getD_eq_getElem?_getD, List.getElem?_eq_getElem (show x + i < xs.length by omega)]
    rfl
  · rw [List.getElem?_eq_none (by rw [iota_len]; omega), List.getElem?_eq_none (show xs.length ≤ x + i by omega)]
    rfl
theorem rgV_int {a b : Int} {N : Addr → Prop} {n : Nat} {H : Hp} : ∀ v ∈ rgV a b, AnyF N n H v := fun v hv => by
  obtain ⟨i, _, rfl⟩ := List.mem_map.mp hv
  exact ⟨_, .int _, flat_int _⟩
def spTrays : Sp := fun vs H Q _ => ∃ (t1 t2 : Addr) (ws us : List Int), vs = [.ref t1, .ref t2] ∧ H t1 = some (.tup (ws.map V.int)) ∧ H t2 = some (.tup (us.map V.int)) ∧ ws.length ≤ 5 ∧ us.length ≤ 5 ∧ (∀ x ∈ ws, 0 ≤ x ∧ x ≤ 3) ∧ (∀ x ∈ us, 0 ≤ x ∧ x ≤ 3) ∧ ∀ H', Same H H' → Q (.bl true) H'
def spRefusedM : Sp := fun vs H Q _ => ∃ (t1 t2 : Addr) (ws us : List Int), vs = [.ref t1, .ref t2] ∧ H t1 = some (.tup (ws.map V.int)) ∧ H t2 = some (.tup (us.map V.int)) ∧ ws.length ≤ 30 ∧ us.length ≤ 30 ∧ crateD (.tuple ((mulC ws us).map PyData.int)) = false ∧ ∀ H', Same H H' → Q (.bl true) H'
theorem crateD_wide {ws : List Int} {x : Int} (h : x ∈ ws) (hx : 12 < x) : crateD (.tuple (ws.map PyData.int)) = false := by
  show (decide ((ws.map PyData.int).length ≤ 60) && (ws.map PyData.int).all (wellD 13)) = false
  rw [show (ws.map PyData.int).all (wellD 13) = false from List.all_eq_false.mpr ⟨.int x, List.mem_map.mpr ⟨x, h, rfl⟩, by show ¬ (decide (0 ≤ x) && decide (x < 13)) = true; rw [decide_eq_false (show ¬ x < 13 by omega), Bool.and_false]; exact Bool.false_ne_true⟩, Bool.and_false]
theorem r_repC {K : PySem.W.Frag} {σ : L2.St} {H : Hp} {l : Addr} {x k : Int} {Q : V → Hp → Prop} (e : H l = some (.tup [.int x])) (k0 : 0 ≤ k) (k1 : k ≤ 1000) (q : ∀ c H', Same H H' → H' c = some (.tup ((List.replicate k.toNat x).map V.int)) → Q (.ref c) H') : tC (V.int k) σ H (fun y H2 => rRepA K (.ref l) y H2 Q) := r_rep e k0 k1 q
/-! ### data in a heap; N: lists that are still changed -/
def KL (K : PySem.W.Frag) (a : Addr) (xs : List V) : Prop := ∃ (o : Obj) (its : Array Value) (n : Nat), K.lookup a = some o ∧ o.cls = .type "list" ∧ o.dict = none ∧ o.data = .seq its n ∧ its.size ≤ sizeLine ∧ Vals xs its.toList
/-- the script, as a datum that no other is like -/
def scrD (ds : List PyData) : PyData := .dict [(.none, .list ds)]
mutual
inductive Dd (K : PySem.W.Frag) (N : Addr → Prop) (H : Hp) : V → PyData → Prop
  | non : Dd K N H .non .none
  | bl (b : Bool) : Dd K N H (.bl b) (.bool b)
  | int (i : Int) : Dd K N H (.int i) (.int i)
  | str (x : Str) : Dd K N H (.str x) (.str x)
  | lst {a : Addr} {xs : List V} {ds : List PyData} : H a = some (.lst xs) → ¬ N a → DdAll K N H xs ds → Dd K N H (.ref a) (.list ds)
  | scr {a : Addr} {xs : List V} {ds : List PyData} : (Rd H a (.lst xs) ∧ ¬ N a) ∨ KL K a xs → DdAll K N H xs ds → Dd K N H (.ref a) (.dict [(.none, .list ds)])
  | tup {a : Addr} {xs : List V} {ds : List PyData} : SqT K H a xs → DdAll K N H xs ds → Dd K N H (.ref a) (.tuple ds)
inductive DdAll (K : PySem.W.Frag) (N : Addr → Prop) (H : Hp) : List V → List PyData → Prop
  | nil : DdAll K N H [] []
  | cons {v : V} {vs : List V} {d : PyData} {ds : List PyData} : Dd K N H v d → DdAll K N H vs ds → DdAll K N H (v :: vs) (d :: ds)
end
/-- what is shared stays -/
structure KeepF (N : Addr → Prop) (H : Hp) (N' : Addr → Prop) (H' : Hp) : Prop where
  c : ∀ a o, H a = some o → ¬ N a → H' a = some o ∧ ¬ N' a
  t : ∀ a xs, Rd H a (.tup xs) → Rd H' a (.tup xs)
theorem KeepF.refl {N : Addr → Prop} {H : Hp} : KeepF N H N H := ⟨fun _ _ h n => ⟨h, n⟩, fun _ _ h => h⟩
theorem KeepF.trans {N N1 N2 : Addr → Prop} {H H1 H2 : Hp} (a : KeepF N H N1 H1) (b : KeepF N1 H1 N2 H2) : KeepF N H N2 H2 := ⟨fun c xs h n => let ⟨h', n'⟩ := a.c c xs h n; b.c c xs h' n', fun c xs h => b.t c xs (a.t c xs h)⟩
theorem same_rd {H H' : Hp} {a : Addr} {u : HO} (s : Same H H') (h : Rd H a u) : Rd H' a u := by
  rcases h with h | ⟨o, h⟩
  · exact .inl (s _ _ h)
  · exact .inr ⟨o, s _ _ h⟩
theorem KeepF.same {N : Addr → Prop} {H H' : Hp} (s : Same H H') : KeepF N H N H' := ⟨fun _ _ h n => ⟨s _ _ h, n⟩, fun _ _ h => same_rd s h⟩
theorem KeepF.weak {N N' : Addr → Prop} {H : Hp} (k : ∀ a, N' a → N a) : KeepF N H N' H := ⟨fun _ _ h n => ⟨h, fun z => n (k _ z)⟩, fun _ _ h => h⟩
theorem KeepF.sqt {K : PySem.W.Frag} {N N' : Addr → Prop} {H H' : Hp} (k : KeepF N H N' H') {a : Addr} {xs : List V} (h : SqT K H a xs) : SqT K H' a xs := by
  rcases h with h | h
  · exact .inl (k.t a xs h)
  · exact .inr h
theorem KeepF.rd {N N' : Addr → Prop} {H H' : Hp} (k : KeepF N H N' H') {a : Addr} {u : HO} (h : Rd H a u) (n : ¬ N a) : Rd H' a u ∧ ¬ N' a := by
  rcases h with h | ⟨o, h⟩
  · exact ⟨.inl (k.c _ _ h n).1, (k.c _ _ h n).2⟩
  · exact ⟨.inr ⟨o, (k.c _ _ h n).1⟩, (k.c _ _ h n).2⟩
theorem KeepF.scr {K : PySem.W.Frag} {N N' : Addr → Prop} {H H' : Hp} (k : KeepF N H N' H') {a : Addr} {xs : List V} (h : (Rd H a (.lst xs) ∧ ¬ N a) ∨ KL K a xs) : (Rd H' a (.lst xs) ∧ ¬ N' a) ∨ KL K a xs := by
  rcases h with ⟨h, n⟩ | h
  · exact .inl (k.rd h n)
  · exact .inr h
mutual
theorem Dd.keep {K : PySem.W.Frag} {N N' : Addr → Prop} {H H' : Hp} (k : KeepF N H N' H') : ∀ {v : V} {d : PyData}, Dd K N H v d → Dd K N' H' v d
  | _, _, .non => .non
  | _, _, .bl b => .bl b
  | _, _, .int i => .int i
  | _, _, .str x => .str x
  | _, _, .lst e n h => .lst (k.c _ _ e n).1 (k.c _ _ e n).2 (DdAll.keep k h)
  | _, _, .scr e h => .scr (k.scr e) (DdAll.keep k h)
  | _, _, .tup e h => .tup (k.sqt e) (DdAll.keep k h)
theorem DdAll.keep {K : PySem.W.Frag} {N N' : Addr → Prop} {H H' : Hp} (k : KeepF N H N' H') : ∀ {vs : List V} {ds : List PyData}, DdAll K N H vs ds → DdAll K N' H' vs ds
  | _, _, .nil => .nil
  | _, _, .cons a b => .cons (Dd.keep k a) (DdAll.keep k b)
end
theorem Dd.same {K : PySem.W.Frag} {N : Addr → Prop} {H H' : Hp} {v : V} {d : PyData} (h : Dd K N H v d) (s : Same H H') : Dd K N H' v d := h.keep (.same s)
theorem DdAll.same {K : PySem.W.Frag} {N : Addr → Prop} {H H' : Hp} {v : List V} {d : List PyData} (h : DdAll K N H v d) (s : Same H H') : DdAll K N H' v d := h.keep (.same s)
theorem lay_cons' {d : PyData} {ds : List PyData} (h : PyData.canLayAll0 (d :: ds) = true) : PyData.canLay0 d = true ∧ PyData.canLayAll0 ds = true := by
  rw [lay_cons, Bool.and_eq_true] at h
  exact h
mutual
theorem Dd.dp {K : PySem.W.Frag} {N : Addr → Prop} {H : Hp} : ∀ {v : V} {d : PyData}, Dd K N H v d → PyData.canLay0 d = true → Dp K H v d
  | _, _, .non, _ => .non
  | _, _, .bl b, _ => .bl b
  | _, _, .int i, _ => .int i
  | _, _, .str x, _ => .str x
  | _, _, .lst e _ h, c => .lst (SqL.of e) (DdAll.dp h (by rw [← lay_lst]; exact c))
  | _, _, .scr e h, c => by simp [PyData.canLay0] at c
  | _, _, .tup e h, c => .tup e (DdAll.dp h (by rw [← lay_tup]; exact c))
theorem DdAll.dp {K : PySem.W.Frag} {N : Addr → Prop} {H : Hp} : ∀ {vs : List V} {ds : List PyData}, DdAll K N H vs ds → PyData.canLayAll0 ds = true → DpAll K H vs ds
  | _, _, .nil, _ => .nil
  | _, _, .cons a b, c => .cons (Dd.dp a (lay_cons' c).1) (DdAll.dp b (lay_cons' c).2)
end
theorem DdAll.len {K : PySem.W.Frag} {N : Addr → Prop} {H : Hp} : ∀ {vs : List V} {ds : List PyData}, DdAll K N H vs ds → vs.length = ds.length
  | _, _, .nil => rfl
  | _, _, .cons _ b => by rw [List.length_cons, List.length_cons, b.len]
theorem DdAll.get {K : PySem.W.Frag} {N : Addr → Prop} {H : Hp} : ∀ {vs : List V} {ds : List PyData} {i : Nat} {d : PyData}, DdAll K N H vs ds → ds[i]? = some d → ∃ v, vs[i]? = some v ∧ Dd K N H v d
  | _, _, i, _, .nil, h => by simp at h
  | _, _, 0, _, .cons a b, h => by
    cases h
    exact ⟨_, rfl, a⟩
  | _, _, i + 1, _, .cons a b, h => b.get (i := i) h
theorem DdAll.get' {K : PySem.W.Frag} {N : Addr → Prop} {H : Hp} : ∀ {vs : List V} {ds : List PyData} {i : Nat} {v : V}, DdAll K N H vs ds → vs[i]? = some v → ∃ d, ds[i]? = some d ∧ Dd K N H v d
  | _, _, i, _, .nil, h => by simp at h
  | _, _, 0, _, .cons a b, h => by
    cases h
    exact ⟨_, rfl, a⟩
  | _, _, i + 1, _, .cons a b, h => b.get' (i := i) h
theorem DdAll.app {K : PySem.W.Frag} {N : Addr → Prop} {H : Hp} : ∀ {vs ws : List V} {ds es : List PyData}, DdAll K N H vs ds → DdAll K N H ws es → DdAll K N H (vs ++ ws) (ds ++ es)
  | _, _, _, _, .nil, h => h
  | _, _, _, _, .cons a b, h => .cons a (b.app h)
theorem DdAll.one {K : PySem.W.Frag} {N : Addr → Prop} {H : Hp} {v : V} {d : PyData} (h : Dd K N H v d) : DdAll K N H [v] [d] := .cons h .nil
theorem DdAll.take {K : PySem.W.Frag} {N : Addr → Prop} {H : Hp} : ∀ {vs : List V} {ds : List PyData} (n : Nat), DdAll K N H vs ds → DdAll K N H (vs.take n) (ds.take n)
  | _, _, 0, _ => .nil
  | _, _, _ + 1, .nil => .nil
  | _, _, n + 1, .cons a b => .cons a (b.take n)
theorem DdAll.drop {K : PySem.W.Frag} {N : Addr → Prop} {H : Hp} : ∀ {vs : List V} {ds : List PyData} (n : Nat), DdAll K N H vs ds → DdAll K N H (vs.drop n) (ds.drop n)
  | _, _, 0, h => h
  | _, _, _ + 1, .nil => .nil
  | _, _, n + 1, .cons a b => b.drop n
theorem DdAll.reverse {K : PySem.W.Frag} {N : Addr → Prop} {H : Hp} : ∀ {vs : List V} {ds : List PyData}, DdAll K N H vs ds → DdAll K N H vs.reverse ds.reverse
  | _, _, .nil => .nil
  | _, _, .cons a b => by
    rw [List.reverse_cons, List.reverse_cons]
    exact b.reverse.app (.one a)
theorem DdAll.set {K : PySem.W.Frag} {N : Addr → Prop} {H : Hp} {v : V} {d : PyData} (h : Dd K N H v d) : ∀ {vs : List V} {ds : List PyData} (n : Nat), DdAll K N H vs ds → DdAll K N H (vs.set n v) (ds.set n d)
  | _, _, _, .nil => .nil
  | _, _, 0, .cons a b => .cons h b
  | _, _, n + 1, .cons a b => .cons a (b.set h n)
theorem DdAll.ints {K : PySem.W.Frag} {N : Addr → Prop} {H : Hp} : ∀ ns : List Int, DdAll K N H (ns.map V.int) (ns.map PyData.int)
  | [] => .nil
  | n :: r => .cons (.int n) (DdAll.ints r)
/-- a dict of ints -/
abbrev kvI (kvs : List (Int × Int)) : List (Key × V) := kvs.map fun p => (Sum.inl p.1, V.int p.2)
abbrev dctD (kvs : List (Int × Int)) : PyData := .dict ((.bool true, .none) :: kvs.map fun p => (PyData.int p.1, PyData.int p.2))
/-- as Dd, but the list itself may be one that is still changed -/
inductive Dw (K : PySem.W.Frag) (N : Addr → Prop) (H : Hp) : V → PyData → Prop
  | dd {v : V} {d : PyData} : Dd K N H v d → Dw K N H v d
  | own {a : Addr} {xs : List V} {ds : List PyData} : H a = some (.lst xs) → DdAll K N H xs ds → Dw K N H (.ref a) (.list ds)
  | dct {a : Addr} (kvs : List (Int × Int)) : H a = some (.dK (kvI kvs)) → Dw K N H (.ref a) (dctD kvs)
def DW (w : Bool) (K : PySem.W.Frag) (N : Addr → Prop) (H : Hp) (v : V) (d : PyData) : Prop := if w = true then Dw K N H v d else Dd K N H v d
theorem DW.w {w : Bool} {K : PySem.W.Frag} {N : Addr → Prop} {H : Hp} {v : V} {d : PyData} (h : DW w K N H v d) : Dw K N H v d := by
  cases w with
  | false => exact .dd h
  | true => exact h
theorem DW.of {w : Bool} {K : PySem.W.Frag} {N : Addr → Prop} {H : Hp} {v : V} {d : PyData} (h : Dd K N H v d) : DW w K N H v d := by
  cases w with
  | false => exact h
  | true => exact .dd h
theorem Dw.same {K : PySem.W.Frag} {N : Addr → Prop} {H H' : Hp} {v : V} {d : PyData} (h : Dw K N H v d) (s : Same H H') : Dw K N H' v d := by
  cases h with
  | dd h => exact .dd (h.same s)
  | own e h => exact .own (s _ _ e) (h.same s)
  | dct kvs e => exact .dct kvs (s _ _ e)
theorem DW.same {w : Bool} {K : PySem.W.Frag} {N : Addr → Prop} {H H' : Hp} {v : V} {d : PyData} (h : DW w K N H v d) (s : Same H H') : DW w K N H' v d := by
  cases w with
  | false => exact Dd.same h s
  | true => exact Dw.same h s
section
variable {K : PySem.W.Frag} {N : Addr → Prop} {H : Hp} {v : V}
theorem Dw.dp {d : PyData} (h : Dw K N H v d) (c : PyData.canLay0 d = true) : Dp K H v d := by
  cases h with
  | dd h => exact h.dp c
  | own e h => exact .lst (SqL.of e) (h.dp (by rw [← lay_lst]; exact c))
  | dct kvs e => simp [PyData.canLay0] at c
theorem Dw.int {i : Int} (h : Dw K N H v (.int i)) : v = .int i := by
  cases h with
  | dd h => cases h; rfl
theorem Dw.bl {b : Bool} (h : Dw K N H v (.bool b)) : v = .bl b := by
  cases h with
  | dd h => cases h; rfl
theorem Dw.str {x : Str} (h : Dw K N H v (.str x)) : v = .str x := by
  cases h with
  | dd h => cases h; rfl
theorem Dw.non (h : Dw K N H v .none) : v = .non := by
  cases h with
  | dd h => cases h; rfl
theorem Dw.tup {ds : List PyData} (h : Dw K N H v (.tuple ds)) : ∃ a xs, v = .ref a ∧ SqT K H a xs ∧ DdAll K N H xs ds := by
  cases h with
  | dd h => cases h with | tup e h => exact ⟨_, _, rfl, e, h⟩
theorem Dw.lst {ds : List PyData} (h : Dw K N H v (.list ds)) : ∃ a xs, v = .ref a ∧ H a = some (.lst xs) ∧ DdAll K N H xs ds := by
  cases h with
  | dd h =>
    cases h with
    | lst e _ h => exact ⟨_, _, rfl, e, h⟩
  | own e h => exact ⟨_, _, rfl, e, h⟩
theorem Dw.scr {ds : List PyData} (h : Dw K N H v (scrD ds)) : ∃ a xs, v = .ref a ∧ SqL K H a xs ∧ DdAll K N H xs ds := by
  cases h with
  | dd h =>
    cases h with
    | scr e h =>
      refine ⟨_, _, rfl, ?_, h⟩
      rcases e with ⟨e, _⟩ | e
      · exact .inl e
      · exact .inr e
end
/-! ### results -/
inductive Rs (α : Type) where
  | bad
  | err (c : Str)
  | ok (a : α)
def Rs.bind {α β : Type} (r : Rs α) (f : α → Rs β) : Rs β := match r with
  | .bad => .bad
  | .err c => .err c
  | .ok a => f a
theorem Rs.bind_ok {α β : Type} (a : α) (f : α → Rs β) : (Rs.ok a).bind f = f a := rfl
theorem Rs.bind_err {α β : Type} (c : Str) (f : α → Rs β) : (Rs.err c : Rs α).bind f = .err c := rfl
theorem Rs.bind_bad {α β : Type} (f : α → Rs β) : (Rs.bad : Rs α).bind f = .bad := rfl
/-- names and what they hold: true for a list that is still changed -/
abbrev Ev := List (Option (Bool × PyData))
/-- what a name of one's own holds -/
inductive OwnD (K : PySem.W.Frag) (N : Addr → Prop) (H : Hp) : HO → PyData → Prop
  | lst {xs : List V} {ds : List PyData} : DdAll K N H xs ds → OwnD K N H (.lst xs) (.list ds)
  | dct (kvs : List (Int × Int)) : OwnD K N H (.dK (kvI kvs)) (dctD kvs)
theorem OwnD.keep {K : PySem.W.Frag} {N N' : Addr → Prop} {H H' : Hp} {o : HO} {d : PyData} (h : OwnD K N H o d) (k : KeepF N H N' H') : OwnD K N' H' o d := by
  cases h with
  | lst h => exact .lst (h.keep k)
  | dct kvs => exact .dct kvs
theorem OwnD.same {K : PySem.W.Frag} {N : Addr → Prop} {H H' : Hp} {o : HO} {d : PyData} (h : OwnD K N H o d) (s : Same H H') : OwnD K N H' o d := h.keep (.same s)
structure Rep (K : PySem.W.Frag) (B : Addr → Prop) (H0 : Hp) (N : Addr → Prop) (σ : L2.St) (H : Hp) (ρ : Ev) : Prop where
  len : σ.length = ρ.length
  base : Same H0 H
  told : Told N H
  hB : ∀ a, B a → N a
  frz : ∀ (i : Nat) d, ρ[i]? = some (some (false, d)) → ∃ v, σ[i]? = some (some v) ∧ Dd K N H v d
  own : ∀ (i : Nat) d, ρ[i]? = some (some (true, d)) → ∃ a o, σ[i]? = some (some (.ref a)) ∧ H a = some o ∧ OwnD K N H o d ∧ H0 a = none ∧ N a ∧ ¬ B a
  inj : ∀ (i j : Nat) d e a, ρ[i]? = some (some (true, d)) → ρ[j]? = some (some (true, e)) → σ[i]? = some (some (.ref a)) → σ[j]? = some (some (.ref a)) → i = j
theorem Rep.same {K : PySem.W.Frag} {B : Addr → Prop} {H0 : Hp} {N : Addr → Prop} {σ : L2.St} {H H' : Hp} {ρ : Ev} (r : Rep K B H0 N σ H ρ) (s : Same H H') : Rep K B H0 N σ H' ρ where
  len := r.len
  base := r.base.trans s
  told := r.told.same s
  hB := r.hB
  frz := fun i d h => let ⟨v, e, k⟩ := r.frz i d h; ⟨v, e, k.same s⟩
  own := fun i d h => let ⟨a, o, e1, e3, e4, e5⟩ := r.own i d h; ⟨a, o, e1, s _ _ e3, e4.same s, e5⟩
  inj := r.inj
theorem Rep.slot {K : PySem.W.Frag} {B : Addr → Prop} {H0 : Hp} {N : Addr → Prop} {σ : L2.St} {H : Hp} {ρ : Ev} (r : Rep K B H0 N σ H ρ) {i : Nat} {b : Bool} {d : PyData} (h : ρ[i]? = some (some (b, d))) : ∃ v, σ[i]? = some (some v) ∧ Dw K N H v d := by
  cases b with
  | false =>
    obtain ⟨v, e, k⟩ := r.frz i d h
    exact ⟨v, e, .dd k⟩
  | true =>
    obtain ⟨a, o, e1, e3, e4, _⟩ := r.own i d h
    cases e4 with
    | lst e4 => exact ⟨_, e1, .own e3 e4⟩
    | dct kvs => exact ⟨_, e1, .dct kvs e3⟩
/-! ### the text's context -/
structure Gx where
  P : Program
  w : World
  K : PySem.W.Frag
  mg : Str → Option Value
  base : Heap
  cls : Str → Addr
structure Sx extends Gx where
  k : Nat
  N : List Str
  sc : Scope
  fc : Str → Bool
structure Cs (S : Sx) (X : Cx) (E : XK) : Prop where
  p : X.prog = S.P
  w : X.w = S.w
  K : X.K = S.K
  mg : X.mg = S.mg
  base : X.base = S.base
  N : X.N = S.N
  sc : X.env.scope = S.sc
  calm : X.calm = true
  room : Room S.k X.A
  tk : Takes X fun c d _ H => E c d H
  po : PassesOwn (model X.prog X.w) X.A X.env X.xe
  fn : ∀ x, S.fc x = true → X.fn x = true
/-- what is behind an expression -/
def EE (w : Bool) (S : Sx) (N : Addr → Prop) (H : Hp) (Q : VK) (E : XK) : Rs PyData → Prop
  | .bad => False
  | .err c => ∀ H', Same H H' → E (.ref (S.cls c)) none H'
  | .ok d => ∀ v H', Same H H' → DW w S.K N H' v d → Q v H'
def De (w : Bool) (S : Sx) (e : Expr) (f : Ev → Rs PyData) : Prop :=
  ∃ t : XK → TE, (∀ X E, Cs S X E → PE X e (t E)) ∧ ∀ B H0 N σ H ρ Q E, Rep S.K B H0 N σ H ρ → EE w S N H Q E (f ρ) → t E σ H Q
theorem EE.mono {w w' : Bool} {S : Sx} {N : Addr → Prop} {H : Hp} {Q : VK} {E : XK} {r : Rs PyData} (h : EE w S N H Q E r) (i : ∀ H v d, DW w' S.K N H v d → DW w S.K N H v d) : EE w' S N H Q E r := by
  cases r with
  | bad => exact h
  | err c => exact h
  | ok d => exact fun v H' s k => h v H' s (i _ _ _ k)
theorem De.any {w : Bool} {S : Sx} {e : Expr} {f : Ev → Rs PyData} (h : De false S e f) : De w S e f := by
  obtain ⟨t, h1, h2⟩ := h
  exact ⟨t, h1, fun B H0 N σ H ρ Q E r k => h2 B H0 N σ H ρ Q E r (k.mono fun _ _ _ z => DW.of z)⟩
/-- argument lists -/
def EA (w : Bool) (S : Sx) (N : Addr → Prop) (H : Hp) (Q : List V → Hp → Prop) (E : XK) : Rs (List PyData) → Prop
  | .bad => False
  | .err c => ∀ H', Same H H' → E (.ref (S.cls c)) none H'
  | .ok ds => ∀ vs H', Same H H' → Paired (DW w S.K N H') vs ds → Q vs H'
def Da (w : Bool) (S : Sx) (es : List Expr) (f : Ev → Rs (List PyData)) : Prop :=
  ∃ t : XK → TA, (∀ X E, Cs S X E → PA X es (t E)) ∧ (∀ B H0 N σ H ρ Q E, Rep S.K B H0 N σ H ρ → EA w S N H Q E (f ρ) → t E σ H Q) ∧ ∀ ρ ds, f ρ = .ok ds → ds.length = es.length
def aNil : Ev → Rs (List PyData) := fun _ => .ok []
def aCons (f : Ev → Rs PyData) (g : Ev → Rs (List PyData)) : Ev → Rs (List PyData) := fun ρ => (f ρ).bind fun d => (g ρ).bind fun ds => .ok (d :: ds)
theorem da_nil {w : Bool} {S : Sx} : Da w S [] aNil := ⟨fun _ => tNil, fun X E _ => pa_nil, fun B H0 N σ H ρ Q E r k => k [] H (Same.refl _) .nil, fun ρ ds e => by cases e; rfl⟩
theorem da_cons {w : Bool} {S : Sx} {e : Expr} {es : List Expr} {f : Ev → Rs PyData} {g : Ev → Rs (List PyData)} (h : De w S e f) (hs : Da w S es g) (hst : ∀ env, starEach (e :: es) env = (false, eval e env) :: starEach es env := by intro _; rfl) : Da w S (e :: es) (aCons f g) := by
  obtain ⟨t, h1, h2⟩ := h
  obtain ⟨u, h3, h4, h5⟩ := hs
  refine ⟨fun E => tCons (t E) (u E), fun X E c => pa_cons (h1 X E c) (h3 X E c) (hst _), fun B H0 N σ H ρ Q E r k => ?_, fun ρ ds k => ?_⟩
  rotate_left
  · unfold aCons at k
    cases e1 : f ρ with
    | bad => rw [e1] at k; cases k
    | err c => rw [e1] at k; cases k
    | ok d =>
      rw [e1, Rs.bind_ok] at k
      cases e2 : g ρ with
      | bad => rw [e2] at k; cases k
      | err c => rw [e2] at k; cases k
      | ok es' =>
        rw [e2, Rs.bind_ok] at k
        cases k
        rw [List.length_cons, List.length_cons, h5 ρ es' e2]
  refine h2 B H0 N σ H ρ _ E r ?_
  unfold aCons at k
  cases e1 : f ρ with
  | bad => rw [e1] at k; exact k
  | err c => rw [e1] at k; exact k
  | ok d =>
    intro v H1 s1 k1
    rw [e1, Rs.bind_ok] at k
    refine h4 B H0 N σ H1 ρ _ E (r.same s1) ?_
    cases e2 : g ρ with
    | bad => rw [e2] at k; exact k
    | err c => rw [e2] at k; exact fun H' s' => k H' (s1.trans s')
    | ok ds =>
      rw [e2] at k
      exact fun vs H2 s2 k2 => k _ H2 (s1.trans s2) (.cons (k1.same s2) k2)
/-- tests -/
def ET (S : Sx) (H : Hp) (Q : Bool → Hp → Prop) (E : XK) : Rs Bool → Prop
  | .bad => False
  | .err c => ∀ H', Same H H' → E (.ref (S.cls c)) none H'
  | .ok b => ∀ H', Same H H' → Q b H'
def Dt (S : Sx) (e : Expr) (f : Ev → Rs Bool) : Prop :=
  ∃ t : XK → TT, (∀ X E, Cs S X E → PT X e (t E)) ∧ ∀ B H0 N σ H ρ Q E, Rep S.K B H0 N σ H ρ → ET S H Q E (f ρ) → t E σ H Q
def Dwt (S : Sx) (e : Expr) (f : Ev → Rs Bool) : Prop :=
  ∃ t : XK → TT, (∀ X E, Cs S X E → PW X e (t E)) ∧ ∀ B H0 N σ H ρ Q E, Rep S.K B H0 N σ H ρ → ET S H Q E (f ρ) → t E σ H Q
/-! ### statements -/
inductive Out where
  | nx (ρ : Ev)
  | ret (d : PyData)
  | brk (ρ : Ev)
  | cnt (ρ : Ev)
def ES (S : Sx) (B : Addr → Prop) (H0 : Hp) (N : Addr → Prop) (H : Hp) (D : Ends) (E : XK) : Rs Out → Prop
  | .bad => False
  | .err c => ∀ H', Same H0 H' → E (.ref (S.cls c)) none H'
  | .ok (.nx ρ) => ∀ N' σ' H', Rep S.K B H0 N' σ' H' ρ → KeepF N H N' H' → D.nx σ' H'
  | .ok (.ret d) => ∀ v H', Same H0 H' → Dd S.K B H' v d → D.rt v H'
  | .ok (.brk ρ) => ∀ N' σ' H', Rep S.K B H0 N' σ' H' ρ → KeepF N H N' H' → D.bk σ' H'
  | .ok (.cnt ρ) => ∀ N' σ' H', Rep S.K B H0 N' σ' H' ρ → KeepF N H N' H' → D.ct σ' H'
def Ds (S : Sx) (s : Stmt) (g : Ev → Rs Out) : Prop :=
  ∃ t : XK → TS, (∀ X E, Cs S X E → PS X s (t E)) ∧ ∀ B H0 N σ H ρ D E, Rep S.K B H0 N σ H ρ → ES S B H0 N H D E (g ρ) → t E D σ H
def Dss (S : Sx) (s : List Stmt) (g : Ev → Rs Out) : Prop :=
  ∃ t : XK → TS, (∀ X E, Cs S X E → PSs X s (t E)) ∧ ∀ B H0 N σ H ρ D E, Rep S.K B H0 N σ H ρ → ES S B H0 N H D E (g ρ) → t E D σ H
def sNil : Ev → Rs Out := fun ρ => .ok (.nx ρ)
def sSeq (a b : Ev → Rs Out) : Ev → Rs Out := fun ρ => (a ρ).bind fun
  | .nx ρ' => b ρ'
  | o => .ok o
theorem dss_nil {S : Sx} : Dss S [] sNil := ⟨fun _ => tNext, fun X E _ => pss_nil, fun B H0 N σ H ρ D E r k => k N σ H r .refl⟩
theorem dss_one {S : Sx} {s : Stmt} {g : Ev → Rs Out} (h : Ds S s g) : Dss S [s] g := by
  obtain ⟨t, h1, h2⟩ := h
  exact ⟨t, fun X E c => pss_one (h1 X E c), h2⟩
theorem dss_cons {S : Sx} {s : Stmt} {ss : List Stmt} {a b : Ev → Rs Out} (h : Ds S s a) (hs : Dss S ss b) : Dss S (s :: ss) (sSeq a b) := by
  obtain ⟨t, h1, h2⟩ := h
  obtain ⟨u, h3, h4⟩ := hs
  refine ⟨fun E => tSeq (t E) (u E), fun X E c => pss_cons (h1 X E c) (h3 X E c), fun B H0 N σ H ρ D E r k => ?_⟩
  refine h2 B H0 N σ H ρ _ E r ?_
  unfold sSeq at k
  cases e1 : a ρ with
  | bad => rw [e1] at k; exact k
  | err c => rw [e1] at k; exact k
  | ok o =>
    rw [e1, Rs.bind_ok] at k
    cases o with
    | ret d => exact k
    | brk ρ' => exact k
    | cnt ρ' => exact k
    | nx ρ' =>
      intro N' σ' H' r' kf
      refine h4 B H0 N' σ' H' ρ' D E r' ?_
      have k : ES S B H0 N H D E (b ρ') := k
      cases e2 : b ρ' with
      | bad => rw [e2] at k; exact k
      | err c => rw [e2] at k; exact k
      | ok o =>
        rw [e2] at k
        cases o with
        | ret d => exact k
        | nx ρ2 => exact fun N2 σ2 H2 r2 k2 => k N2 σ2 H2 r2 (kf.trans k2)
        | brk ρ2 => exact fun N2 σ2 H2 r2 k2 => k N2 σ2 H2 r2 (kf.trans k2)
        | cnt ρ2 => exact fun N2 σ2 H2 r2 k2 => k N2 σ2 H2 r2 (kf.trans k2)
def lim : Nat := 10000000
theorem lim_line : lim ≤ sizeLine := by decide
section
variable {S : Sx} {w : Bool}
/-! ### names and constants -/
abbrev Gn (S : Sx) (x : Str) : Prop := S.sc.names.lookup x = some .globalImplicit
def eVar (i : Nat) : Ev → Rs PyData := fun ρ => match ρ[i]? with
  | some (some (false, d)) => .ok d
  | _ => .bad
def eVarR (i : Nat) : Ev → Rs PyData := fun ρ => match ρ[i]? with
  | some (some (_, d)) => .ok d
  | _ => .bad
def eC (d : PyData) : Ev → Rs PyData := fun _ => .ok d
theorem vis_of {X : Cx} {E : XK} (c : Cs S X E) {x : Str} (h : Vis S.sc x) : Vis X.env.scope x := by rw [c.sc]; exact h
theorem gl_of {X : Cx} {E : XK} (c : Cs S X E) {x : Str} (h : S.sc.names.lookup x = some .globalImplicit) : Gl X x := by
  show X.env.scope.names.lookup x = _
  rw [c.sc]
  exact h
theorem n_of {X : Cx} {E : XK} (c : Cs S X E) {i : Nat} {x : Str} (h : S.N[i]? = some x) : X.N[i]? = some x := by rw [c.N]; exact h
theorem de_var (i : Nat) {x : Str} {pos : Pos} (hN : S.N[i]? = some x := by rfl) (hv : Vis S.sc x := by first | exact Or.inl rfl | exact Or.inr (Or.inl rfl) | exact Or.inr (Or.inr rfl)) (hd : (x == ("__debug__" : Str)) = false := by decide) (hcd : (x == ("__classdict__" : Str)) = false := by decide) : De w S (.Name x pos) (eVar i) := by
  refine De.any ⟨fun _ => tVar i, fun X E c => pe_var (n_of c hN) (vis_of c hv) hd hcd, fun B H0 N σ H ρ Q E r k => ?_⟩
  unfold eVar at k
  split at k
  · rename_i d e
    obtain ⟨v, e1, e2⟩ := r.frz i d e
    exact ⟨v, e1, k v H (Same.refl _) e2⟩
  · exact k.elim
theorem de_varR (i : Nat) {x : Str} {pos : Pos} (hN : S.N[i]? = some x := by rfl) (hv : Vis S.sc x := by first | exact Or.inl rfl | exact Or.inr (Or.inl rfl) | exact Or.inr (Or.inr rfl)) (hd : (x == ("__debug__" : Str)) = false := by decide) (hcd : (x == ("__classdict__" : Str)) = false := by decide) : De true S (.Name x pos) (eVarR i) := by
  refine ⟨fun _ => tVar i, fun X E c => pe_var (n_of c hN) (vis_of c hv) hd hcd, fun B H0 N σ H ρ Q E r k => ?_⟩
  unfold eVarR at k
  split at k
  · rename_i b d e
    obtain ⟨v, e1, e2⟩ := r.slot e
    exact ⟨v, e1, k v H (Same.refl _) e2⟩
  · exact k.elim
theorem de_int {i : Int} {j : Nat} {pos : Pos} : De w S (.Constant (.int i) j pos) (eC (.int i)) := De.any ⟨fun _ => tC (.int i), fun X E c => pe_int, fun B H0 N σ H ρ Q E r k => k _ H (Same.refl _) (.int i)⟩
theorem de_bl {b : Bool} {j : Nat} {pos : Pos} : De w S (.Constant (.bool b) j pos) (eC (.bool b)) := De.any ⟨fun _ => tC (.bl b), fun X E c => pe_bl, fun B H0 N σ H ρ Q E r k => k _ H (Same.refl _) (.bl b)⟩
theorem de_non {j : Nat} {pos : Pos} : De w S (.Constant .none j pos) (eC .none) := De.any ⟨fun _ => tC .non, fun X E c => pe_non, fun B H0 N σ H ρ Q E r k => k _ H (Same.refl _) .non⟩
theorem de_str {x : Str} {j : Nat} {pos : Pos} : De w S (.Constant (.str x) j pos) (eC (.str x)) := De.any ⟨fun _ => tC (.str x), fun X E c => pe_str, fun B H0 N σ H ρ Q E r k => k _ H (Same.refl _) (.str x)⟩
/-- a whole number of the module -/
theorem de_globI {x : Str} {i : Int} {t : Tok} {pos : Pos} (hm : S.mg x = some (.int i t)) (hg : S.sc.names.lookup x = some .globalImplicit := by rfl) (hd : (x == ("__debug__" : Str)) = false := by decide) : De w S (.Name x pos) (eC (.int i)) :=
  De.any ⟨fun _ => tC (.int i), fun X E c => pe_glob (gl_of c hg) (by rw [c.mg]; exact hm) ⟨t, rfl⟩ hd, fun B H0 N σ H ρ Q E r k => k _ H (Same.refl _) (.int i)⟩
theorem de_globS {x : Str} {z : Str} {t : Tok} {pos : Pos} (hm : S.mg x = some (.str z t)) (hg : S.sc.names.lookup x = some .globalImplicit := by rfl) (hd : (x == ("__debug__" : Str)) = false := by decide) : De w S (.Name x pos) (eC (.str z)) :=
  De.any ⟨fun _ => tC (.str z), fun X E c => pe_glob (gl_of c hg) (by rw [c.mg]; exact hm) ⟨t, rfl⟩ hd, fun B H0 N σ H ρ Q E r k => k _ H (Same.refl _) (.str z)⟩
/-! ### two operands -/
def e2 (g : PyData → PyData → Rs PyData) (fa fb : Ev → Rs PyData) : Ev → Rs PyData := fun ρ => (fa ρ).bind fun d => (fb ρ).bind fun e => g d e
def OpD (S : Sx) (w : Bool) (r : R2) (g : PyData → PyData → Rs PyData) : Prop := ∀ N H x y d e Q E, Told N H → Dw S.K N H x d → Dw S.K N H y e → EE w S N H Q E (g d e) → r x y H Q
theorem EE.from {N : Addr → Prop} {H H1 : Hp} {Q : VK} {E : XK} {r : Rs PyData} (s : Same H H1) (k : EE w S N H Q E r) : EE w S N H1 Q E r := by
  cases r with
  | bad => exact k
  | err c => exact fun H' s' => k H' (s.trans s')
  | ok d => exact fun v H' s' kk => k v H' (s.trans s') kk
theorem de_two {a b e : Expr} {r : R2} {g : PyData → PyData → Rs PyData} {fa fb : Ev → Rs PyData} (mk : ∀ X E, Cs S X E → ∀ ta tb, PE X a ta → PE X b tb → PE X e (tOp r ta tb)) (ho : OpD S w r g) (ha : De true S a fa) (hb : De true S b fb) : De w S e (e2 g fa fb) := by
  obtain ⟨t, h1, h2⟩ := ha
  obtain ⟨u, h3, h4⟩ := hb
  refine ⟨fun E => tOp r (t E) (u E), fun X E c => mk X E c _ _ (h1 X E c) (h3 X E c), fun B H0 N σ H ρ Q E rp k => ?_⟩
  refine h2 B H0 N σ H ρ _ E rp ?_
  unfold e2 at k
  cases e1 : fa ρ with
  | bad => rw [e1] at k; exact k
  | err c => rw [e1] at k; exact k
  | ok d =>
    intro v H1 s1 k1
    rw [e1, Rs.bind_ok] at k
    refine h4 B H0 N σ H1 ρ _ E (rp.same s1) ?_
    cases e2 : fb ρ with
    | bad => rw [e2] at k; exact k
    | err c => rw [e2] at k; exact fun H' s' => k H' (s1.trans s')
    | ok e =>
      rw [e2, Rs.bind_ok] at k
      exact fun y H2 s2 k2 => ho N H2 v y d e Q E ((rp.same s1).same s2).told (DW.w (k1.same s2)) (DW.w k2) (k.from (s1.trans s2))
theorem op_or {X : Cx} {f : Value → Value → Sem Value} {r r' : R2} (h : OpR X f r) (h' : OpR X f r') : OpR X f (fun x y H Q => r x y H Q ∨ r' x y H Q) := by
  intro pins s σ H x y v u Q I rx ry q
  rcases q with q | q
  · exact h pins s σ H x y v u Q I rx ry q
  · exact h' pins s σ H x y v u Q I rx ry q
theorem new_of {N : Addr → Prop} {H : Hp} {p : Addr} (t : Told N H) (h : H p = none) : ¬ N p := fun z => t p z h
theorem dd_tup {N : Addr → Prop} {H : Hp} {p : Addr} {xs : List V} {ds : List PyData} (h : H p = none) (k : DdAll S.K N H xs ds) : Dd S.K N (upd H p (.tup xs)) (.ref p) (.tuple ds) := .tup (SqT.of upd_same) (k.same (same_upd h))
theorem dd_lst {N : Addr → Prop} {H : Hp} {p : Addr} {xs : List V} {ds : List PyData} (t : Told N H) (h : H p = none) (k : DdAll S.K N H xs ds) : Dd S.K N (upd H p (.lst xs)) (.ref p) (.list ds) := .lst upd_same (new_of t h) (k.same (same_upd h))
/-- a + b -/
noncomputable def addD : PyData → PyData → Rs PyData
  | .int i, .int j => .ok (.int (i + j))
  | .tuple a, .tuple b => @ite _ (a.length + b.length ≤ lim) (Classical.propDecidable _) (.ok (.tuple (a ++ b))) (.bad)
  | .list a, .list b => @ite _ (a.length + b.length ≤ lim) (Classical.propDecidable _) (.ok (.list (a ++ b))) (.bad)
  | .str a, .str b => @ite _ (a.length + b.length ≤ lim) (Classical.propDecidable _) (.ok (.str (a ++ b))) (.bad)
  | _, _ => .bad
def rAddA (K : PySem.W.Frag) : R2 := fun x y H Q => (((rI0 fun i j => .int (i + j)) x y H Q ∨ rCatA K x y H Q) ∨ rCat x y H Q) ∨ (∃ i j, x = .str i ∧ y = .str j ∧ i.length + j.length ≤ sizeLine ∧ Q (.str (i ++ j)) H)
theorem op_addA {X : Cx} : OpR X (binaryOp .Add) (rAddA X.K) := op_or (op_or (op_or op_add op_catA) op_cat) op_add_str
theorem opD_add : OpD S w (rAddA S.K) addD := by
  intro N H x y d e Q E t hx hy k
  unfold addD at k
  split at k
  · rename_i i j
    cases hx.int
    cases hy.int
    exact .inl (.inl (.inl ⟨i, j, rfl, rfl, k _ H (Same.refl _) (.of (.int _))⟩))
  · rename_i a b
    split at k
    · rename_i hl
      obtain ⟨p, xs, rfl, e1, k1⟩ := hx.tup
      obtain ⟨q, ys, rfl, e2, k2⟩ := hy.tup
      have hz : xs.length + ys.length ≤ sizeLine := by rw [k1.len, k2.len]; exact Nat.le_trans hl lim_line
      refine .inl (.inl (.inr ⟨p, q, xs, ys, rfl, rfl, e1, e2, hz, fun z => ?_, fun _ z => ?_, fun _ _ c hc => ?_⟩))
      · subst z
        cases k1
        exact k _ H (Same.refl _) (.of (.tup e2 k2))
      · subst z
        cases k2
        rw [List.append_nil] at k
        exact k _ H (Same.refl _) (.of (.tup e1 k1))
      · exact k _ _ (same_upd hc) (.of (dd_tup hc (k1.app k2)))
    · exact k.elim
  · rename_i a b
    split at k
    · rename_i hl
      obtain ⟨p, xs, rfl, e1, k1⟩ := hx.lst
      obtain ⟨q, ys, rfl, e2, k2⟩ := hy.lst
      have hz : xs.length + ys.length ≤ sizeLine := by rw [k1.len, k2.len]; exact Nat.le_trans hl lim_line
      exact .inl (.inr ⟨p, q, xs, ys, rfl, rfl, e1, e2, hz, fun c hc => k _ _ (same_upd hc) (.of (dd_lst t hc (k1.app k2)))⟩)
    · exact k.elim
  · rename_i a b
    split at k
    · rename_i hl
      cases hx.str
      cases hy.str
      exact .inr ⟨a, b, rfl, rfl, Nat.le_trans hl lim_line, k _ H (Same.refl _) (.of (.str _))⟩
    · exact k.elim
  · exact k.elim
theorem de_add {a b : Expr} {pos : Pos} {fa fb : Ev → Rs PyData} (ha : De true S a fa) (hb : De true S b fb) : De w S (.BinOp a .Add b pos) (e2 addD fa fb) :=
  de_two (fun X E c ta tb h1 h2 => pe_op (by rw [← c.K]; exact op_addA) h1 h2) opD_add ha hb
/-- whole numbers alone -/
noncomputable def intD2 (C : Int → Int → Bool) (g : Int → Int → PyData) : PyData → PyData → Rs PyData
  | .int i, .int j => @ite _ (C i j = true) (Classical.propDecidable _) (.ok (g i j)) (.bad)
  | _, _ => .bad
theorem opD_int {C : Int → Int → Bool} {Cp : Int → Int → Prop} {g : Int → Int → PyData} {gv : Int → Int → V} (hC : ∀ i j, C i j = true → Cp i j) (hg : ∀ i j N H, Dd S.K N H (gv i j) (g i j)) : OpD S w (rI Cp gv) (intD2 C g) := by
  intro N H x y d e Q E t hx hy k
  unfold intD2 at k
  split at k
  · rename_i i j
    split at k
    · rename_i hc
      cases hx.int
      cases hy.int
      exact ⟨i, j, rfl, rfl, hC i j hc, k _ H (Same.refl _) (.of (hg i j N H))⟩
    · exact k.elim
  · exact k.elim
def intD0 (g : Int → Int → PyData) : PyData → PyData → Rs PyData
  | .int i, .int j => .ok (g i j)
  | _, _ => .bad
theorem opD_int0 {g : Int → Int → PyData} {gv : Int → Int → V} (hg : ∀ i j N H, Dd S.K N H (gv i j) (g i j)) : OpD S w (rI0 gv) (intD0 g) := by
  intro N H x y d e Q E t hx hy k
  unfold intD0 at k
  split at k
  · rename_i i j
    cases hx.int
    cases hy.int
    exact ⟨i, j, rfl, rfl, k _ H (Same.refl _) (.of (hg i j N H))⟩
  · exact k.elim
def subD : PyData → PyData → Rs PyData := intD0 fun i j => .int (i - j)
theorem de_sub {a b : Expr} {pos : Pos} {fa fb : Ev → Rs PyData} (ha : De true S a fa) (hb : De true S b fb) : De w S (.BinOp a .Sub b pos) (e2 subD fa fb) :=
  de_two (fun X E c ta tb h1 h2 => pe_op op_sub h1 h2) (opD_int0 fun i j N H => .int _) ha hb
/-- a * b: numbers of at most nine thousand bits; a tuple or a text some times -/
def wide (i : Int) : Bool := decide (i.natAbs.log2 < 9000)
def mulOkB (z : Str) (k : Int) : Bool := decide (0 ≤ k) && decide (k ≤ 1000) && decide (z.length ≤ 1000)
theorem mulOk_of {z : Str} {k : Int} (h : mulOkB z k = true) : MulOk z k := by
  unfold mulOkB at h
  simp only [Bool.and_eq_true, decide_eq_true_eq] at h
  obtain ⟨⟨h0, h1⟩, h2⟩ := h
  refine ⟨?_, fun hn _ => ?_, fun hn _ => ?_⟩
  · rw [decide_eq_false (by omega), decide_eq_false (by omega)]
    rfl
  · have : (1000 : Int) ≤ (2 ^ 63 - 1) / k := by
      rw [Int.le_ediv_iff_mul_le (by omega)]
      omega
    omega
  · have : z.length * k.toNat ≤ 1000 * 1000 := Nat.mul_le_mul h2 (by omega)
    show decide (z.length * k.toNat > sizeLine) = false
    refine decide_eq_false ?_
    have hs : sizeLine = 16777216 := sizeLine_eq
    omega
noncomputable def mulD : PyData → PyData → Rs PyData
  | .int i, .int j => @ite _ ((wide i && wide j) = true) (Classical.propDecidable _) (.ok (.int (i * j))) (.bad)
  | .tuple a, .int k => @ite _ (a ≠ [] ∧ 0 ≤ k ∧ k ≤ 1000 ∧ a.length ≤ 1000) (Classical.propDecidable _) (.ok (.tuple (List.replicate k.toNat a).flatten)) (.bad)
  | .str z, .int k => @ite _ (mulOkB z k = true) (Classical.propDecidable _) (.ok (.str (Txt.mul z k))) (.bad)
  | _, _ => .bad
def rMulA (K : PySem.W.Frag) : R2 := fun x y H Q => ((rI CMulW fun i j => .int (i * j)) x y H Q ∨ rRepA K x y H Q) ∨ rMulS x y H Q
theorem op_mulA {X : Cx} : OpR X (binaryOp .Mult) (rMulA X.K) := op_or (op_or op_mulW op_repA) op_mulS
theorem wide_lt {i : Int} (h : wide i = true) : i.natAbs < 2 ^ 9000 := by
  have h' : i.natAbs.log2 < 9000 := of_decide_eq_true h
  by_cases h0 : i.natAbs = 0
  · rw [h0]; exact Nat.two_pow_pos _
  · exact (Nat.log2_lt h0).mp h'
theorem DdAll.rep {K : PySem.W.Frag} {N : Addr → Prop} {H : Hp} {xs : List V} {ds : List PyData} (h : DdAll K N H xs ds) : ∀ n : Nat, DdAll K N H (List.replicate n xs).flatten (List.replicate n ds).flatten
  | 0 => .nil
  | n + 1 => by
    rw [List.replicate_succ, List.replicate_succ, List.flatten_cons, List.flatten_cons]
    exact h.app (h.rep n)
theorem opD_mul : OpD S w (rMulA S.K) mulD := by
  intro N H x y d e Q E t hx hy k
  unfold mulD at k
  split at k
  · rename_i i j
    split at k
    · rename_i hc
      rw [Bool.and_eq_true] at hc
      cases hx.int
      cases hy.int
      exact .inl (.inl ⟨i, j, rfl, rfl, wide_mul (wide_lt hc.1) (wide_lt hc.2) (by decide) (by decide) (by decide), k _ H (Same.refl _) (.of (.int _))⟩)
    · exact k.elim
  · rename_i a n
    split at k
    · rename_i hc
      obtain ⟨p, xs, rfl, e1, k1⟩ := hx.tup
      cases hy.int
      refine .inl (.inr ⟨p, n, xs, rfl, rfl, e1, fun z => ?_, hc.2.1, hc.2.2.1, by rw [k1.len]; exact hc.2.2.2, fun z => ?_, fun _ c hcc => k _ _ (same_upd hcc) (.of (dd_tup hcc (k1.rep _)))⟩)
      · subst z
        cases k1
        exact hc.1 rfl
      · subst z
        have e : (List.replicate (1 : Int).toNat a).flatten = a := by
          show (List.replicate 1 a).flatten = a
          simp
        rw [e] at k
        exact k _ H (Same.refl _) (.of (.tup e1 k1))
    · exact k.elim
  · rename_i z n
    split at k
    · rename_i hc
      cases hx.str
      cases hy.int
      exact .inr ⟨z, n, rfl, rfl, mulOk_of hc, k _ H (Same.refl _) (.of (.str _))⟩
    · exact k.elim
  · exact k.elim
theorem de_mul {a b : Expr} {pos : Pos} {fa fb : Ev → Rs PyData} (ha : De true S a fa) (hb : De true S b fb) : De w S (.BinOp a .Mult b pos) (e2 mulD fa fb) :=
  de_two (fun X E c ta tb h1 h2 => pe_op (by rw [← c.K]; exact op_mulA) h1 h2) opD_mul ha hb
noncomputable def modD : PyData → PyData → Rs PyData := intD2 (fun _ j => decide (0 < j)) fun i j => .int (i % j)
theorem de_mod {a b : Expr} {pos : Pos} {fa fb : Ev → Rs PyData} (ha : De true S a fa) (hb : De true S b fb) : De w S (.BinOp a .Mod b pos) (e2 modD fa fb) :=
  de_two (fun X E c ta tb h1 h2 => pe_op op_mod h1 h2) (opD_int (fun i j h => of_decide_eq_true h) fun i j N H => .int _) ha hb
noncomputable def divD : PyData → PyData → Rs PyData := intD2 (fun _ j => decide (0 < j) && wide j) fun i j => .int (i / j)
theorem de_div {a b : Expr} {pos : Pos} {fa fb : Ev → Rs PyData} (ha : De true S a fa) (hb : De true S b fb) : De w S (.BinOp a .FloorDiv b pos) (e2 divD fa fb) :=
  de_two (fun X E c ta tb h1 h2 => pe_op op_fdivW h1 h2) (opD_int (fun i j h => by
    rw [Bool.and_eq_true] at h
    exact ⟨of_decide_eq_true h.1, of_decide_eq_true h.2⟩) fun i j N H => .int _) ha hb
noncomputable def powD : PyData → PyData → Rs PyData := intD2 (fun i j => decide (0 ≤ j) && decide (j ≤ 1000000) && decide (i.natAbs < 2 ^ 64)) fun i j => .int (i ^ j.toNat)
theorem de_pow {a b : Expr} {pos : Pos} {fa fb : Ev → Rs PyData} (ha : De true S a fa) (hb : De true S b fb) : De w S (.BinOp a .Pow b pos) (e2 powD fa fb) :=
  de_two (fun X E c ta tb h1 h2 => pe_op op_pow h1 h2) (opD_int (fun i j h => by
    simp only [Bool.and_eq_true, decide_eq_true_eq] at h
    exact ⟨h.1.1, h.1.2, h.2⟩) fun i j N H => .int _) ha hb
/-! ### comparisons -/
noncomputable def eqD (d e : PyData) : Rs PyData := @ite _ ((SeqAt.shaped d && SeqAt.shaped e) = true) (Classical.propDecidable _) (.ok (.bool (PyData.eqv d e))) (.bad)
noncomputable def neD (d e : PyData) : Rs PyData := @ite _ ((SeqAt.shaped d && SeqAt.shaped e) = true) (Classical.propDecidable _) (.ok (.bool (!PyData.eqv d e))) (.bad)
theorem shaped_lay {d : PyData} (h : SeqAt.shaped d = true) : PyData.canLay0 d = true := by
  unfold SeqAt.shaped at h
  rw [Bool.and_eq_true] at h
  exact h.1
theorem opD_eq : OpD S w (rEqD S.K) eqD := by
  intro N H x y d e Q E t hx hy k
  unfold eqD at k
  split at k
  · rename_i hc
    rw [Bool.and_eq_true] at hc
    exact ⟨d, e, hx.dp (shaped_lay hc.1), hy.dp (shaped_lay hc.2), hc.1, hc.2, k _ H (Same.refl _) (.of (.bl _))⟩
  · exact k.elim
theorem opD_ne : OpD S w (rNeD S.K) neD := by
  intro N H x y d e Q E t hx hy k
  unfold neD at k
  split at k
  · rename_i hc
    rw [Bool.and_eq_true] at hc
    exact ⟨d, e, hx.dp (shaped_lay hc.1), hy.dp (shaped_lay hc.2), hc.1, hc.2, k _ H (Same.refl _) (.of (.bl _))⟩
  · exact k.elim
def ltD : PyData → PyData → Rs PyData := intD0 fun i j => .bool (decide (i < j))
def gtD : PyData → PyData → Rs PyData := intD0 fun i j => .bool (decide (j < i))
def leD : PyData → PyData → Rs PyData := intD0 fun i j => .bool (decide (i ≤ j))
def geD : PyData → PyData → Rs PyData := intD0 fun i j => .bool (decide (j ≤ i))
def isNoneD : PyData → Bool
  | .none => true
  | _ => false
def isD (d e : PyData) : Rs PyData := match e with
  | .none => .ok (.bool (isNoneD d))
  | _ => .bad
def isNotD (d e : PyData) : Rs PyData := match e with
  | .none => .ok (.bool (!isNoneD d))
  | _ => .bad
theorem isNone_iff {N : Addr → Prop} {H : Hp} {x : V} {d : PyData} (h : Dw S.K N H x d) : decide (x = .non) = isNoneD d := by
  cases h with
  | dd h => cases h <;> rfl
  | own _ _ => rfl
  | dct _ _ => rfl
theorem opD_is : OpD S w (fun x y H Q => y = .non ∧ Q (.bl (decide (x = .non))) H) isD := by
  intro N H x y d e Q E t hx hy k
  unfold isD at k
  split at k
  · cases hy.non
    exact ⟨rfl, k _ H (Same.refl _) (.of (by rw [isNone_iff hx]; exact .bl _))⟩
  · exact k.elim
theorem opD_isNot : OpD S w (fun x y H Q => y = .non ∧ Q (.bl (!decide (x = .non))) H) isNotD := by
  intro N H x y d e Q E t hx hy k
  unfold isNotD at k
  split at k
  · cases hy.non
    exact ⟨rfl, k _ H (Same.refl _) (.of (by rw [isNone_iff hx]; exact .bl _))⟩
  · exact k.elim
/-- x in a list of anything, or in a tuple of flat things -/
def flatDt : PyData → Bool
  | .none => true
  | .bool _ => true
  | .int _ => true
  | .str _ => true
  | _ => false
end
section
variable {S : Sx} {w : Bool}
/-! ### comparisons as values and as tests -/
def bD : PyData → Rs Bool
  | .bool b => .ok b
  | _ => .bad
def tB' (f : Ev → Rs PyData) : Ev → Rs Bool := fun ρ => (f ρ).bind bD
/-- a comparison by its operator -/
structure CmpD (S : Sx) (op : CmpOp) (g : PyData → PyData → Rs PyData) : Prop where
  h : ∃ r : R2, (∀ X E, Cs S X E → OpR X (compareOp op) r) ∧ ∀ w, OpD S w r g
theorem cmp_eq : CmpD S .Eq eqD := ⟨_, fun X E c => by rw [← c.K]; exact op_eqD (by have := c.room.un; omega), fun w => opD_eq⟩
theorem cmp_ne : CmpD S .NotEq neD := ⟨_, fun X E c => by rw [← c.K]; exact op_neD (by have := c.room.un; omega), fun w => opD_ne⟩
theorem cmp_lt : CmpD S .Lt ltD := ⟨_, fun X E c => op_lt, fun w => opD_int0 fun i j N H => .bl _⟩
theorem cmp_gt : CmpD S .Gt gtD := ⟨_, fun X E c => op_gt, fun w => opD_int0 fun i j N H => .bl _⟩
theorem cmp_le : CmpD S .LtE leD := ⟨_, fun X E c => op_le, fun w => opD_int0 fun i j N H => .bl _⟩
theorem cmp_ge : CmpD S .GtE geD := ⟨_, fun X E c => op_ge, fun w => opD_int0 fun i j N H => .bl _⟩
theorem cmp_is : CmpD S .Is isD := ⟨_, fun X E c => op_isN, fun w => opD_is⟩
theorem cmp_isNot : CmpD S .IsNot isNotD := ⟨_, fun X E c => op_notN, fun w => opD_isNot⟩
theorem flat_V {N : Addr → Prop} {H : Hp} {x : V} {d : PyData} (h : Dd S.K N H x d) (f : flatDt d = true) : flatV x = true := by
  cases h <;> first | rfl | cases f
theorem eqV_eqv {N N' : Addr → Prop} {H : Hp} {x y : V} {d e : PyData} (h : Dd S.K N H x d) (h' : Dd S.K N' H y e) (f : flatDt d = true) (f' : flatDt e = true) : eqV x y = PyData.eqv d e := by
  cases h <;> cases h' <;> first | rfl | (simp only [eqV, PyData.eqv]; done) | (simp [flatDt] at f; done) | (simp [flatDt] at f'; done)
theorem flats_V {N : Addr → Prop} {H : Hp} : ∀ {xs : List V} {ds : List PyData}, DdAll S.K N H xs ds → ds.all flatDt = true → xs.all flatV = true
  | _, _, .nil, _ => rfl
  | _, _, .cons a b, h => by
    rw [List.all_cons, Bool.and_eq_true] at h
    rw [List.all_cons, flat_V a h.1, flats_V b h.2]
    rfl
theorem in_V {N N' : Addr → Prop} {H : Hp} {x : V} {d : PyData} (hx : Dd S.K N' H x d) (fx : flatDt d = true) : ∀ {xs : List V} {ds : List PyData}, DdAll S.K N H xs ds → ds.all flatDt = true → inV x xs = ds.any fun z => PyData.eqv z d
  | _, _, .nil, _ => rfl
  | _, _, .cons a b, h => by
    rw [List.all_cons, Bool.and_eq_true] at h
    have ih := in_V hx fx b h.2
    unfold inV at ih ⊢
    rw [List.any_cons, List.any_cons, ih, eqV_eqv a hx h.1 fx]
theorem flat_dd {N : Addr → Prop} {H : Hp} {x : V} {d : PyData} (h : Dw S.K N H x d) (f : flatDt d = true) : Dd S.K N H x d := by
  cases h with
  | dd h => exact h
  | own _ _ => cases f
  | dct _ _ => cases f
noncomputable def inB (neg : Bool) (d e : PyData) : Rs PyData := match e with
  | .list ds => @ite _ ((SeqAt.shaped d && SeqAt.shaped (.list ds)) = true) (Classical.propDecidable _) (.ok (.bool (neg ^^ ds.any fun z => PyData.eqv z d))) (.bad)
  | .tuple ds => @ite _ ((flatDt d && ds.all flatDt) = true) (Classical.propDecidable _) (.ok (.bool (neg ^^ ds.any fun z => PyData.eqv z d))) (.bad)
  | _ => .bad
noncomputable def inD : PyData → PyData → Rs PyData := inB false
noncomputable def notInD : PyData → PyData → Rs PyData := inB true
theorem opD_in (neg : Bool) : OpD S w (fun x y H Q => (∃ d ds, Dp S.K H x d ∧ Dp S.K H y (.list ds) ∧ SeqAt.shaped d = true ∧ SeqAt.shaped (.list ds) = true ∧ Q (.bl (neg ^^ ds.any fun z => PyData.eqv z d)) H) ∨ rIn S.K neg x y H Q) (inB neg) := by
  intro N H x y d e Q E t hx hy k
  unfold inB at k
  split at k
  · split at k
    · rename_i ds hc
      rw [Bool.and_eq_true] at hc
      exact .inl ⟨d, ds, hx.dp (shaped_lay hc.1), hy.dp (shaped_lay hc.2), hc.1, hc.2, k _ H (Same.refl _) (.of (.bl _))⟩
    · exact k.elim
  · split at k
    · rename_i ds hc
      rw [Bool.and_eq_true] at hc
      obtain ⟨p, xs, rfl, e1, k1⟩ := hy.tup
      have hx' := flat_dd hx hc.1
      refine .inr ⟨p, xs, rfl, .inr e1, flat_V hx' hc.1, flats_V k1 hc.2, ?_⟩
      rw [in_V hx' hc.1 k1 hc.2]
      cases neg with
      | false =>
        have := k _ H (Same.refl _) (.of (.bl _))
        rw [Bool.false_xor] at this
        exact this
      | true =>
        have := k _ H (Same.refl _) (.of (.bl _))
        rw [Bool.true_xor] at this
        exact this
    · exact k.elim
  · exact k.elim
theorem cmp_in : CmpD S .In inD := ⟨_, fun X E c => by
  rw [← c.K]
  refine op_or (fun pins s σ H x y v u Q I rx ry q => ?_) op_in_seq
  obtain ⟨d, ds, h1, h2, h3, h4, h5⟩ := q
  rw [Bool.false_xor] at h5
  exact op_inD (by have := c.room.un; omega) pins s σ H x y v u Q I rx ry ⟨d, ds, h1, h2, h3, h4, h5⟩, fun w => opD_in false⟩
theorem cmp_notIn : CmpD S .NotIn notInD := ⟨_, fun X E c => by
  rw [← c.K]
  refine op_or (fun pins s σ H x y v u Q I rx ry q => ?_) op_notIn_seq
  obtain ⟨d, ds, h1, h2, h3, h4, h5⟩ := q
  rw [Bool.true_xor] at h5
  exact op_notInD (by have := c.room.un; omega) pins s σ H x y v u Q I rx ry ⟨d, ds, h1, h2, h3, h4, h5⟩, fun w => opD_in true⟩
theorem de_cmp {a b : Expr} {op : CmpOp} {pos : Pos} {g : PyData → PyData → Rs PyData} {fa fb : Ev → Rs PyData} (hc : CmpD S op g) (ha : De true S a fa) (hb : De true S b fb) (hm : behindInMarks op b = false := by first | exact nomark _ | rfl) : De w S (.Compare a [op] [b] pos) (e2 g fa fb) := by
  obtain ⟨r, h1, h2⟩ := hc.h
  exact de_two (fun X E c ta tb k1 k2 => pe_cmpR (h1 X E c) k1 k2 hm) (h2 w) ha hb
theorem dt_of {e : Expr} {f : Ev → Rs PyData} {mk : TE → TT} (hmk : ∀ t σ H Q, t σ H (fun x H' => ∃ k, x = .bl k ∧ Q k H') → mk t σ H Q) (h : ∃ t : XK → TE, (∀ X E, Cs S X E → PT X e (mk (t E))) ∧ ∀ B H0 N σ H ρ Q E, Rep S.K B H0 N σ H ρ → EE true S N H Q E (f ρ) → t E σ H Q) : Dt S e (tB' f) := by
  obtain ⟨t, h1, h2⟩ := h
  refine ⟨fun E => mk (t E), h1, fun B H0 N σ H ρ Q E r k => hmk _ _ _ _ (h2 B H0 N σ H ρ _ E r ?_)⟩
  unfold tB' at k
  cases e1 : f ρ with
  | bad => rw [e1] at k; exact k
  | err c => rw [e1] at k; exact k
  | ok d =>
    rw [e1, Rs.bind_ok] at k
    intro v H' s' k'
    cases d with
    | bool b => exact ⟨b, (DW.w k').bl, k H' s'⟩
    | _ => exact k.elim
/-- an expression that gives a truth, as a test -/
theorem dt_val {e : Expr} {f : Ev → Rs PyData} (h : De true S e f) (he : ∀ env whole, isTrue e env whole = (do let v ← whole; standAt e.pos; holding [v] (truthy v)) := by intro _ _; rfl) : Dt S e (tB' f) := by
  obtain ⟨t, h1, h2⟩ := h
  exact dt_of (mk := L2.tB) (fun t σ H Q q => q) ⟨t, fun X E c => pt_val (h1 X E c) (he _), h2⟩
theorem dt_cmp {a b : Expr} {op : CmpOp} {pos : Pos} {g : PyData → PyData → Rs PyData} {fa fb : Ev → Rs PyData} (hc : CmpD S op g) (ha : De true S a fa) (hb : De true S b fb) (hm : behindInMarks op b = false := by first | exact nomark _ | rfl) : Dt S (.Compare a [op] [b] pos) (tB' (e2 g fa fb)) := by
  obtain ⟨r, h1, h2⟩ := hc.h
  obtain ⟨t, h3, h4⟩ := ha
  obtain ⟨u, h5, h6⟩ := hb
  refine dt_of (mk := tTest) (fun t σ H Q q => q) ⟨fun E => tOp r (t E) (u E), fun X E c => pt_cmpR (h1 X E c) (h3 X E c) (h5 X E c) hm, fun B H0 N σ H ρ Q E rp k => ?_⟩
  refine h4 B H0 N σ H ρ _ E rp ?_
  unfold e2 at k
  cases e1 : fa ρ with
  | bad => rw [e1] at k; exact k
  | err c => rw [e1] at k; exact k
  | ok d =>
    intro v H1 s1 k1
    rw [e1, Rs.bind_ok] at k
    refine h6 B H0 N σ H1 ρ _ E (rp.same s1) ?_
    cases e2 : fb ρ with
    | bad => rw [e2] at k; exact k
    | err c => rw [e2] at k; exact fun H' s' => k H' (s1.trans s')
    | ok e =>
      rw [e2, Rs.bind_ok] at k
      exact fun y H2 s2 k2 => h2 true N H2 v y d e Q E ((rp.same s1).same s2).told (DW.w (k1.same s2)) (DW.w k2) (k.from (s1.trans s2))
/-- a < b < c -/
def eChain (g g' : PyData → PyData → Rs PyData) (fa fb fc : Ev → Rs PyData) : Ev → Rs PyData := fun ρ => (fa ρ).bind fun a => (fb ρ).bind fun b => (g a b).bind fun z => (bD z).bind fun k => if k = true then (fc ρ).bind fun c => g' b c else .ok (.bool false)
theorem chain_run {a b c : Expr} {op op' : CmpOp} {g g' : PyData → PyData → Rs PyData} {fa fb fc : Ev → Rs PyData} (h : CmpD S op g) (h' : CmpD S op' g') (ha : De true S a fa) (hb : De true S b fb) (hc : De true S c fc) :
    ∃ (r r' : R2) (t u z : XK → TE), (∀ X E, Cs S X E → OpR X (compareOp op) r ∧ OpR X (compareOp op') r' ∧ PE X a (t E) ∧ PE X b (u E) ∧ PE X c (z E)) ∧ ∀ w B H0 N σ H ρ Q E, Rep S.K B H0 N σ H ρ → EE w S N H Q E (eChain g g' fa fb fc ρ) → tChain r r' (t E) (u E) (z E) σ H Q := by
  obtain ⟨r, h1, h2⟩ := h.h
  obtain ⟨r', h1', h2'⟩ := h'.h
  obtain ⟨t, h3, h4⟩ := ha
  obtain ⟨u, h5, h6⟩ := hb
  obtain ⟨z, h7, h8⟩ := hc
  refine ⟨r, r', t, u, z, fun X E c => ⟨h1 X E c, h1' X E c, h3 X E c, h5 X E c, h7 X E c⟩, fun w B H0 N σ H ρ Q E rp k => ?_⟩
  refine h4 B H0 N σ H ρ _ E rp ?_
  unfold eChain at k
  cases e1 : fa ρ with
  | bad => rw [e1] at k; exact k
  | err c => rw [e1] at k; exact k
  | ok d =>
    intro v H1 s1 k1
    rw [e1, Rs.bind_ok] at k
    refine h6 B H0 N σ H1 ρ _ E (rp.same s1) ?_
    cases e2 : fb ρ with
    | bad => rw [e2] at k; exact k
    | err c => rw [e2] at k; exact fun H' s' => k H' (s1.trans s')
    | ok e =>
      rw [e2, Rs.bind_ok] at k
      intro y H2 s2 k2
      refine h2 true N H2 v y d e _ E ((rp.same s1).same s2).told (DW.w (k1.same s2)) (DW.w k2) ?_
      cases e3 : g d e with
      | bad => rw [e3] at k; exact k
      | err c => rw [e3] at k; exact fun H' s' => k H' ((s1.trans s2).trans s')
      | ok q =>
        rw [e3, Rs.bind_ok] at k
        intro x3 H3 s3 k3
        cases q with
        | bool kk =>
          rw [bD, Rs.bind_ok] at k
          refine ⟨kk, (DW.w k3).bl, ?_⟩
          cases kk with
          | false =>
            rw [if_neg Bool.false_ne_true] at k ⊢
            exact k _ H3 ((s1.trans s2).trans s3) (.of (.bl _))
          | true =>
            rw [if_pos rfl] at k ⊢
            refine h8 B H0 N σ H3 ρ _ E (((rp.same s1).same s2).same s3) ?_
            cases e4 : fc ρ with
            | bad => rw [e4] at k; exact k
            | err c => rw [e4] at k; exact fun H' s' => k H' (((s1.trans s2).trans s3).trans s')
            | ok c =>
              rw [e4, Rs.bind_ok] at k
              exact fun y4 H4 s4 k4 => h2' w N H4 y y4 e c Q E ((((rp.same s1).same s2).same s3).same s4).told (DW.w (k2.same (s3.trans s4))) (DW.w k4) (k.from (((s1.trans s2).trans s3).trans s4))
        | _ => exact k.elim
theorem de_chain {a b c : Expr} {op op' : CmpOp} {pos : Pos} {g g' : PyData → PyData → Rs PyData} {fa fb fc : Ev → Rs PyData} (h : CmpD S op g) (h' : CmpD S op' g') (ha : De true S a fa) (hb : De true S b fb) (hc : De true S c fc) (hm : lastMarks [op, op'] [b, c] = false := by with_unfolding_all rfl) : De w S (.Compare a [op, op'] [b, c] pos) (eChain g g' fa fb fc) := by
  obtain ⟨r, r', t, u, z, h1, h2⟩ := chain_run h h' ha hb hc
  exact ⟨fun E => tChain r r' (t E) (u E) (z E), fun X E c => let ⟨q1, q2, q3, q4, q5⟩ := h1 X E c; pe_chain q1 q2 q3 q4 q5 hm, h2 w⟩
theorem dt_chain {a b c : Expr} {op op' : CmpOp} {pos : Pos} {g g' : PyData → PyData → Rs PyData} {fa fb fc : Ev → Rs PyData} (h : CmpD S op g) (h' : CmpD S op' g') (ha : De true S a fa) (hb : De true S b fb) (hc : De true S c fc) (hm : lastMarks [op, op'] [b, c] = false := by with_unfolding_all rfl) : Dt S (.Compare a [op, op'] [b, c] pos) (tB' (eChain g g' fa fb fc)) := by
  obtain ⟨r, r', t, u, z, h1, h2⟩ := chain_run h h' ha hb hc
  exact dt_of (mk := tTest) (fun t σ H Q q => q) ⟨fun E => tChain r r' (t E) (u E) (z E), fun X E c => let ⟨q1, q2, q3, q4, q5⟩ := h1 X E c; pt_chain q1 q2 q3 q4 q5 hm, h2 true⟩
/-! ### not, and, or, if -/
theorem ET.from {H H1 : Hp} {Q : Bool → Hp → Prop} {E : XK} {r : Rs Bool} (s : Same H H1) (k : ET S H Q E r) : ET S H1 Q E r := by
  cases r with
  | bad => exact k
  | err c => exact fun H' s' => k H' (s.trans s')
  | ok d => exact fun H' s' => k H' (s.trans s')
def tNot' (f : Ev → Rs Bool) : Ev → Rs Bool := fun ρ => (f ρ).bind fun b => .ok (!b)
theorem dt_not {a : Expr} {pos : Pos} {f : Ev → Rs Bool} (h : Dt S a f) : Dt S (.UnaryOp .Not a pos) (tNot' f) := by
  obtain ⟨t, h1, h2⟩ := h
  refine ⟨fun E => tNot (t E), fun X E c => pt_not (h1 X E c), fun B H0 N σ H ρ Q E r k => h2 B H0 N σ H ρ _ E r ?_⟩
  unfold tNot' at k
  cases e1 : f ρ with
  | bad => rw [e1] at k; exact k
  | err c => rw [e1] at k; exact k
  | ok d => rw [e1] at k; exact k
def tAnd' (f g : Ev → Rs Bool) : Ev → Rs Bool := fun ρ => (f ρ).bind fun b => if b = true then g ρ else .ok false
def tOr' (f g : Ev → Rs Bool) : Ev → Rs Bool := fun ρ => (f ρ).bind fun b => if b = true then .ok true else g ρ
theorem dw_and1 {a : Expr} {pos : Pos} {f : Ev → Rs Bool} (h : Dt S a f) : Dwt S (.BoolOp .And [a] pos) f := by
  obtain ⟨t, h1, h2⟩ := h
  exact ⟨t, fun X E c => pw_and1 (h1 X E c), h2⟩
theorem dw_or1 {a : Expr} {pos : Pos} {f : Ev → Rs Bool} (h : Dt S a f) : Dwt S (.BoolOp .Or [a] pos) f := by
  obtain ⟨t, h1, h2⟩ := h
  exact ⟨t, fun X E c => pw_or1 (h1 X E c), h2⟩
theorem dw_and {a b : Expr} {rest : List Expr} {pos : Pos} {f g : Ev → Rs Bool} (h : Dt S a f) (h' : Dwt S (.BoolOp .And (b :: rest) pos) g) : Dwt S (.BoolOp .And (a :: b :: rest) pos) (tAnd' f g) := by
  obtain ⟨t, h1, h2⟩ := h
  obtain ⟨u, h3, h4⟩ := h'
  refine ⟨fun E => tAnd (t E) (u E), fun X E c => pw_and (h1 X E c) (h3 X E c), fun B H0 N σ H ρ Q E r k => h2 B H0 N σ H ρ _ E r ?_⟩
  unfold tAnd' at k
  cases e1 : f ρ with
  | bad => rw [e1] at k; exact k
  | err c => rw [e1] at k; exact k
  | ok d =>
    rw [e1, Rs.bind_ok] at k
    intro H1 s1
    cases d with
    | false =>
      rw [if_neg Bool.false_ne_true] at k ⊢
      exact k H1 s1
    | true =>
      rw [if_pos rfl] at k ⊢
      exact h4 B H0 N σ H1 ρ _ E (r.same s1) (k.from s1)
theorem dw_or {a b : Expr} {rest : List Expr} {pos : Pos} {f g : Ev → Rs Bool} (h : Dt S a f) (h' : Dwt S (.BoolOp .Or (b :: rest) pos) g) : Dwt S (.BoolOp .Or (a :: b :: rest) pos) (tOr' f g) := by
  obtain ⟨t, h1, h2⟩ := h
  obtain ⟨u, h3, h4⟩ := h'
  refine ⟨fun E => tOr (t E) (u E), fun X E c => pw_or (h1 X E c) (h3 X E c), fun B H0 N σ H ρ Q E r k => h2 B H0 N σ H ρ _ E r ?_⟩
  unfold tOr' at k
  cases e1 : f ρ with
  | bad => rw [e1] at k; exact k
  | err c => rw [e1] at k; exact k
  | ok d =>
    rw [e1, Rs.bind_ok] at k
    intro H1 s1
    cases d with
    | true =>
      rw [if_pos rfl] at k ⊢
      exact k H1 s1
    | false =>
      rw [if_neg Bool.false_ne_true] at k ⊢
      exact h4 B H0 N σ H1 ρ _ E (r.same s1) (k.from s1)
theorem dt_w {e : Expr} {f : Ev → Rs Bool} (h : Dwt S e f) : Dt S e f := by
  obtain ⟨t, h1, h2⟩ := h
  exact ⟨t, fun X E c => (h1 X E c).pt, h2⟩
def eNot (f : Ev → Rs PyData) : Ev → Rs PyData := fun ρ => (f ρ).bind fun d => (bD d).bind fun b => .ok (.bool (!b))
def eAnd (f g : Ev → Rs PyData) : Ev → Rs PyData := fun ρ => (f ρ).bind fun d => (bD d).bind fun b => if b = true then g ρ else .ok (.bool false)
def eOr (f g : Ev → Rs PyData) : Ev → Rs PyData := fun ρ => (f ρ).bind fun d => (bD d).bind fun b => if b = true then .ok (.bool true) else g ρ
theorem de_not {a : Expr} {pos : Pos} {f : Ev → Rs PyData} (h : De true S a f) : De w S (.UnaryOp .Not a pos) (eNot f) := by
  obtain ⟨t, h1, h2⟩ := h
  refine ⟨fun E => tNotV (t E), fun X E c => pe_not (h1 X E c), fun B H0 N σ H ρ Q E r k => h2 B H0 N σ H ρ _ E r ?_⟩
  unfold eNot at k
  cases e1 : f ρ with
  | bad => rw [e1] at k; exact k
  | err c => rw [e1] at k; exact k
  | ok d =>
    rw [e1, Rs.bind_ok] at k
    intro v H1 s1 k1
    cases d with
    | bool b => exact ⟨b, (DW.w k1).bl, k _ H1 s1 (.of (.bl _))⟩
    | _ => exact k.elim
theorem de_one {op : BoolOp} {a : Expr} {pos : Pos} {f : Ev → Rs PyData} (h : De w S a f) : De w S (.BoolOp op [a] pos) f := by
  obtain ⟨t, h1, h2⟩ := h
  exact ⟨t, fun X E c => pe_one (h1 X E c), h2⟩
theorem de_and {a b : Expr} {rest : List Expr} {pos : Pos} {f g : Ev → Rs PyData} (h : De true S a f) (h' : De w S (.BoolOp .And (b :: rest) pos) g) : De w S (.BoolOp .And (a :: b :: rest) pos) (eAnd f g) := by
  obtain ⟨t, h1, h2⟩ := h
  obtain ⟨u, h3, h4⟩ := h'
  refine ⟨fun E => tAndV (t E) (u E), fun X E c => pe_and (h1 X E c) (h3 X E c), fun B H0 N σ H ρ Q E r k => h2 B H0 N σ H ρ _ E r ?_⟩
  unfold eAnd at k
  cases e1 : f ρ with
  | bad => rw [e1] at k; exact k
  | err c => rw [e1] at k; exact k
  | ok d =>
    rw [e1, Rs.bind_ok] at k
    intro v H1 s1 k1
    cases d with
    | bool b =>
      rw [bD, Rs.bind_ok] at k
      refine ⟨b, (DW.w k1).bl, ?_⟩
      cases b with
      | false =>
        rw [if_neg Bool.false_ne_true] at k ⊢
        exact k _ H1 s1 (.of (.bl _))
      | true =>
        rw [if_pos rfl] at k ⊢
        exact h4 B H0 N σ H1 ρ _ E (r.same s1) (k.from s1)
    | _ => exact k.elim
theorem de_or {a b : Expr} {rest : List Expr} {pos : Pos} {f g : Ev → Rs PyData} (h : De true S a f) (h' : De w S (.BoolOp .Or (b :: rest) pos) g) : De w S (.BoolOp .Or (a :: b :: rest) pos) (eOr f g) := by
  obtain ⟨t, h1, h2⟩ := h
  obtain ⟨u, h3, h4⟩ := h'
  refine ⟨fun E => tOrV (t E) (u E), fun X E c => pe_or (h1 X E c) (h3 X E c), fun B H0 N σ H ρ Q E r k => h2 B H0 N σ H ρ _ E r ?_⟩
  unfold eOr at k
  cases e1 : f ρ with
  | bad => rw [e1] at k; exact k
  | err c => rw [e1] at k; exact k
  | ok d =>
    rw [e1, Rs.bind_ok] at k
    intro v H1 s1 k1
    cases d with
    | bool b =>
      rw [bD, Rs.bind_ok] at k
      refine ⟨b, (DW.w k1).bl, ?_⟩
      cases b with
      | true =>
        rw [if_pos rfl] at k ⊢
        exact k _ H1 s1 (.of (.bl _))
      | false =>
        rw [if_neg Bool.false_ne_true] at k ⊢
        exact h4 B H0 N σ H1 ρ _ E (r.same s1) (k.from s1)
    | _ => exact k.elim
def eIf (c : Ev → Rs Bool) (f g : Ev → Rs PyData) : Ev → Rs PyData := fun ρ => (c ρ).bind fun b => if b = true then f ρ else g ρ
theorem de_if {c a b : Expr} {pos : Pos} {fc : Ev → Rs Bool} {f g : Ev → Rs PyData} (hc : Dt S c fc) (h : De w S a f) (h' : De w S b g) : De w S (.IfExp c a b pos) (eIf fc f g) := by
  obtain ⟨t, h1, h2⟩ := hc
  obtain ⟨u, h3, h4⟩ := h
  obtain ⟨z, h5, h6⟩ := h'
  refine ⟨fun E => tIf (t E) (u E) (z E), fun X E c => pe_ifExp (h1 X E c) (h3 X E c) (h5 X E c), fun B H0 N σ H ρ Q E r k => h2 B H0 N σ H ρ _ E r ?_⟩
  unfold eIf at k
  cases e1 : fc ρ with
  | bad => rw [e1] at k; exact k
  | err c => rw [e1] at k; exact k
  | ok d =>
    rw [e1, Rs.bind_ok] at k
    intro H1 s1
    cases d with
    | true =>
      rw [if_pos rfl] at k ⊢
      exact h4 B H0 N σ H1 ρ _ E (r.same s1) (k.from s1)
    | false =>
      rw [if_neg Bool.false_ne_true] at k ⊢
      exact h6 B H0 N σ H1 ρ _ E (r.same s1) (k.from s1)
/-- a name as a test, by its truth -/
noncomputable def truD : PyData → Rs Bool
  | .none => .ok false
  | .bool b => .ok b
  | .int i => .ok (i != 0)
  | .str x => @ite _ (x.length ≤ lim) (Classical.propDecidable _) (.ok ((x.length : Int) != 0)) (.bad)
  | .list ds => .ok (!ds.isEmpty)
  | .tuple ds => .ok (!ds.isEmpty)
  | .dict _ => .bad
noncomputable def tTr (f : Ev → Rs PyData) : Ev → Rs Bool := fun ρ => (f ρ).bind truD
theorem dd_empty {N : Addr → Prop} {H : Hp} {xs : List V} {ds : List PyData} (h : DdAll S.K N H xs ds) : xs.isEmpty = ds.isEmpty := by
  cases h <;> rfl
theorem dt_truth {e : Expr} {f : Ev → Rs PyData} (h : De true S e f) (he : ∀ env whole, isTrue e env whole = (do let v ← whole; standAt e.pos; holding [v] (truthy v)) := by intro _ _; rfl) : Dt S e (tTr f) := by
  obtain ⟨t, h1, h2⟩ := h
  refine ⟨fun E σ H Q => t E σ H fun x H' => ∃ k, TruV S.K x H' k ∧ Q k H', fun X E c => by rw [← c.K]; exact pt_truth (h1 X E c) (he _), fun B H0 N σ H ρ Q E r k => h2 B H0 N σ H ρ _ E r ?_⟩
  unfold tTr at k
  cases e1 : f ρ with
  | bad => rw [e1] at k; exact k
  | err c => rw [e1] at k; exact k
  | ok d =>
    rw [e1, Rs.bind_ok] at k
    intro v H1 s1 k1
    have k1 := DW.w k1
    cases d with
    | none => exact ⟨_, by cases k1.non; exact rfl, k H1 s1⟩
    | bool b => exact ⟨_, by cases k1.bl; exact rfl, k H1 s1⟩
    | int i => exact ⟨_, by cases k1.int; exact rfl, k H1 s1⟩
    | str x =>
      have k : ET S H Q E (@ite _ (x.length ≤ lim) (Classical.propDecidable _) (.ok ((x.length : Int) != 0)) .bad) := k
      by_cases hl : x.length ≤ lim
      · rw [if_pos hl] at k
        exact ⟨_, by cases k1.str; exact ⟨Nat.le_trans hl lim_line, rfl⟩, k H1 s1⟩
      · rw [if_neg hl] at k
        exact k.elim
    | list ds =>
      obtain ⟨a, xs, rfl, e2, k2⟩ := k1.lst
      exact ⟨_, .inl ⟨xs, SqL.of e2, by rw [dd_empty k2]⟩, k H1 s1⟩
    | tuple ds =>
      obtain ⟨a, xs, rfl, e2, k2⟩ := k1.tup
      exact ⟨_, .inr (.inl ⟨xs, e2, by rw [dd_empty k2]⟩), k H1 s1⟩
    | dict _ => exact k.elim
end
section
variable {S : Sx} {w : Bool}
theorem pd_all {N : Addr → Prop} {H : Hp} : ∀ {vs : List V} {ds : List PyData}, Paired (DW false S.K N H) vs ds → DdAll S.K N H vs ds
  | _, _, .nil => .nil
  | _, _, .cons a b => .cons a (pd_all b)
/-! ### new lists -/
theorem keep_new {N : Addr → Prop} {H : Hp} {p : Addr} {o : HO} (h : H p = none) : KeepF N H (fun a => N a ∨ a = p) (upd H p o) := ⟨fun a u e n => ⟨same_upd h a u e, fun z => z.elim n (ne_of_none e h)⟩, fun a xs e => same_rd (same_upd h) e⟩
def EF (S : Sx) (N : Addr → Prop) (H : Hp) (Q : VK) (E : XK) : Rs (List PyData) → Prop
  | .bad => False
  | .err c => ∀ H', Same H H' → E (.ref (S.cls c)) none H'
  | .ok ds => ∀ p xs H', Same H H' → H p = none → H' p = some (.lst xs) → DdAll S.K (fun a => N a ∨ a = p) H' xs ds → Q (.ref p) H'
def Df (S : Sx) (e : Expr) (f : Ev → Rs (List PyData)) : Prop :=
  ∃ t : XK → TE, (∀ X E, Cs S X E → PE X e (t E)) ∧ ∀ B H0 N σ H ρ Q E, Rep S.K B H0 N σ H ρ → EF S N H Q E (f ρ) → t E σ H Q
def eL (f : Ev → Rs (List PyData)) : Ev → Rs PyData := fun ρ => (f ρ).bind fun ds => .ok (.list ds)
theorem de_l {e : Expr} {f : Ev → Rs (List PyData)} (h : Df S e f) : De w S e (eL f) := by
  obtain ⟨t, h1, h2⟩ := h
  refine De.any ⟨t, h1, fun B H0 N σ H ρ Q E r k => h2 B H0 N σ H ρ Q E r ?_⟩
  unfold eL at k
  cases e1 : f ρ with
  | bad => rw [e1] at k; exact k
  | err c => rw [e1] at k; exact k
  | ok ds =>
    rw [e1] at k
    exact fun p xs H' s hp hl hd => k _ H' s (.lst hl (new_of r.told hp) (hd.keep (.weak fun _ z => .inl z)))
theorem EF.from {N : Addr → Prop} {H H1 : Hp} {Q : VK} {E : XK} {r : Rs (List PyData)} (s : Same H H1) (k : EF S N H Q E r) : EF S N H1 Q E r := by
  cases r with
  | bad => exact k
  | err c => exact fun H' s' => k H' (s.trans s')
  | ok d => exact fun p xs H' s' hp => k p xs H' (s.trans s') (s.free hp)
theorem EF.new {N : Addr → Prop} {H : Hp} {Q : VK} {E : XK} {xs : List V} {ds : List PyData} (k : EF S N H Q E (.ok ds)) (h : DdAll S.K N H xs ds) : ∀ p, H p = none → Q (.ref p) (upd H p (.lst xs)) := fun p hp => k p xs _ (same_upd hp) hp upd_same (h.keep (keep_new hp))
theorem df_lst {es : List Expr} {pos : Pos} {f : Ev → Rs (List PyData)} (h : Da false S es f) (hl : es.length ≤ 1000 := by decide) : Df S (.List es pos) f := by
  obtain ⟨t, h1, h2, h3⟩ := h
  refine ⟨fun E => tLst (t E), fun X E c => pe_lst (h1 X E c), fun B H0 N σ H ρ Q E r k => h2 B H0 N σ H ρ _ E r ?_⟩
  cases e1 : f ρ with
  | bad => rw [e1] at k; exact k
  | err c => rw [e1] at k; exact k
  | ok ds =>
    rw [e1] at k
    intro vs H1 s1 k1
    have hd := pd_all k1
    exact ⟨by rw [hd.len, h3 ρ ds e1]; exact Nat.le_of_lt (small1000 hl), (k.from s1).new hd⟩
def eTup (f : Ev → Rs (List PyData)) : Ev → Rs PyData := fun ρ => (f ρ).bind fun ds => .ok (.tuple ds)
theorem de_tup {es : List Expr} {k : Nat} {pos : Pos} {f : Ev → Rs (List PyData)} (h : Da false S es f) (hl : es.length ≤ 1000 := by decide) : De w S (.Tuple es k pos) (eTup f) := by
  obtain ⟨t, h1, h2, h3⟩ := h
  refine De.any ⟨fun E => tTup (t E), fun X E c => pe_tup (h1 X E c), fun B H0 N σ H ρ Q E r k => h2 B H0 N σ H ρ _ E r ?_⟩
  unfold eTup at k
  cases e1 : f ρ with
  | bad => rw [e1] at k; exact k
  | err c => rw [e1] at k; exact k
  | ok ds =>
    rw [e1] at k
    intro vs H1 s1 k1
    have hd := pd_all k1
    exact ⟨by rw [hd.len, h3 ρ ds e1]; exact Nat.le_of_lt (small1000 hl), fun p hp => k _ _ (s1.trans (same_upd hp)) (dd_tup hp hd)⟩
/-! ### a[i] -/
def ixD (d e : PyData) : Rs PyData := match d, e with
  | .list ds, .int i => match atI ds i with
    | some z => .ok z
    | none => .bad
  | .tuple ds, .int i => match atI ds i with
    | some z => .ok z
    | none => .bad
  | .dict [(.none, .list ds)], .int i => match atI ds i with
    | some z => .ok z
    | none => .bad
  | _, _ => .bad
theorem dd_at {N : Addr → Prop} {H : Hp} {xs : List V} {ds : List PyData} {i : Int} {z : PyData} (h : DdAll S.K N H xs ds) (e : atI ds i = some z) : ∃ v, atI xs i = some v ∧ Dd S.K N H v z := by
  unfold atI at e ⊢
  rw [h.len]
  cases q : ixN ds.length i with
  | none => rw [q] at e; cases e
  | some j =>
    rw [q] at e
    exact h.get e
theorem opD_ix : OpD S w (fun x y H Q => rIxL S.K x y H Q ∨ rIxT S.K x y H Q) ixD := by
  intro N H x y d e Q E t hx hy k
  unfold ixD at k
  split at k
  · rename_i ds i
    split at k
    · rename_i z hz
      obtain ⟨p, xs, rfl, e1, k1⟩ := hx.lst
      cases hy.int
      obtain ⟨v, hv, kv⟩ := dd_at k1 hz
      exact .inl ⟨p, xs, i, v, rfl, rfl, SqL.of e1, hv, k v H (Same.refl _) (.of kv)⟩
    · exact k.elim
  · rename_i ds i
    split at k
    · rename_i z hz
      obtain ⟨p, xs, rfl, e1, k1⟩ := hx.tup
      cases hy.int
      obtain ⟨v, hv, kv⟩ := dd_at k1 hz
      exact .inr ⟨p, xs, i, v, rfl, rfl, e1, hv, k v H (Same.refl _) (.of kv)⟩
    · exact k.elim
  · rename_i ds i
    split at k
    · rename_i z hz
      obtain ⟨p, xs, rfl, e1, k1⟩ := Dw.scr hx
      cases hy.int
      obtain ⟨v, hv, kv⟩ := dd_at k1 hz
      exact .inl ⟨p, xs, i, v, rfl, rfl, e1, hv, k v H (Same.refl _) (.of kv)⟩
    · exact k.elim
  · exact k.elim
theorem ix_or {X : Cx} {r r' : R2} (h : IxR X r) (h' : IxR X r') : IxR X (fun x y H Q => r x y H Q ∨ r' x y H Q) := by
  intro value slice pins s σ H x y v u Q I rx ry q hs
  rcases q with q | q
  · exact h value slice pins s σ H x y v u Q I rx ry q hs
  · exact h' value slice pins s σ H x y v u Q I rx ry q hs
theorem de_ix {a b : Expr} {pos : Pos} {fa fb : Ev → Rs PyData} (ha : De true S a fa) (hb : De true S b fb) (hs : PlainIx b := by exact fun _ _ => rfl) : De w S (.Subscript a b pos) (e2 ixD fa fb) :=
  de_two (fun X E c ta tb h1 h2 => pe_ix (by rw [← c.K]; exact ix_or ix_list ix_tup) h1 h2 hs) opD_ix ha hb
/-! ### a[i:j] -/
def ePart (f : Ev → Rs PyData) : Ev → Rs (Option Int) := fun ρ => (f ρ).bind fun
  | .int i => .ok (some i)
  | _ => .bad
def eNoPart : Ev → Rs (Option Int) := fun _ => .ok none
def EO (S : Sx) (H : Hp) (Q : Option Int → Hp → Prop) (E : XK) : Rs (Option Int) → Prop
  | .bad => False
  | .err c => ∀ H', Same H H' → E (.ref (S.cls c)) none H'
  | .ok o => ∀ H', Same H H' → Q o H'
def Do (S : Sx) (e : Option Expr) (f : Ev → Rs (Option Int)) : Prop :=
  ∃ t : XK → TO, (∀ X E, Cs S X E → PO X e (t E)) ∧ ∀ B H0 N σ H ρ Q E, Rep S.K B H0 N σ H ρ → EO S H Q E (f ρ) → t E σ H Q
theorem do_none : Do S none eNoPart := ⟨fun _ => tNoPart, fun X E c => po_none, fun B H0 N σ H ρ Q E r k => k H (Same.refl _)⟩
theorem do_some {e : Expr} {f : Ev → Rs PyData} (h : De true S e f) : Do S (some e) (ePart f) := by
  obtain ⟨t, h1, h2⟩ := h
  refine ⟨fun E => tPart (t E), fun X E c => po_some (h1 X E c), fun B H0 N σ H ρ Q E r k => h2 B H0 N σ H ρ _ E r ?_⟩
  unfold ePart at k
  cases e1 : f ρ with
  | bad => rw [e1] at k; exact k
  | err c => rw [e1] at k; exact k
  | ok d =>
    rw [e1, Rs.bind_ok] at k
    intro v H1 s1 k1
    cases d with
    | int i => exact ⟨i, (DW.w k1).int, k H1 s1⟩
    | _ => exact k.elim
def cutD (xs : List PyData) (lo hi : Option Int) : List PyData := (xs.drop (HT.sIx xs.length 0 lo)).take (HT.sIx xs.length xs.length hi - HT.sIx xs.length 0 lo)
theorem dd_cut {N : Addr → Prop} {H : Hp} {xs : List V} {ds : List PyData} (h : DdAll S.K N H xs ds) (lo hi : Option Int) : DdAll S.K N H (cutV xs lo hi) (cutD ds lo hi) := by
  unfold cutV cutD
  rw [h.len]
  exact (h.drop _).take _
theorem slice_run {e : Expr} {lo hi : Option Expr} {f : Ev → Rs PyData} {fl fh : Ev → Rs (Option Int)} {r : V → Option Int → Option Int → Hp → VK → Prop} (he : De true S e f) (hl : Do S lo fl) (hh : Do S hi fh) :
    ∃ (t : XK → TE) (tl th : XK → TO), (∀ X E, Cs S X E → PE X e (t E) ∧ PO X lo (tl E) ∧ PO X hi (th E)) ∧ ∀ B H0 N σ H ρ Q E, Rep S.K B H0 N σ H ρ →
      (match (f ρ).bind fun d => (fl ρ).bind fun l => (fh ρ).bind fun h => Rs.ok (d, l, h) with
        | .bad => False
        | .err c => ∀ H', Same H H' → E (.ref (S.cls c)) none H'
        | .ok z => ∀ v H', Same H H' → Dw S.K N H' v z.1 → r v z.2.1 z.2.2 H' Q) → tSl r (t E) (tl E) (th E) σ H Q := by
  obtain ⟨t, h1, h2⟩ := he
  obtain ⟨tl, h3, h4⟩ := hl
  obtain ⟨th, h5, h6⟩ := hh
  refine ⟨t, tl, th, fun X E c => ⟨h1 X E c, h3 X E c, h5 X E c⟩, fun B H0 N σ H ρ Q E rp k => h2 B H0 N σ H ρ _ E rp ?_⟩
  cases e1 : f ρ with
  | bad => rw [e1] at k; exact k
  | err c => rw [e1] at k; exact k
  | ok d =>
    rw [e1, Rs.bind_ok] at k
    intro v H1 s1 k1
    refine h4 B H0 N σ H1 ρ _ E (rp.same s1) ?_
    cases e2 : fl ρ with
    | bad => rw [e2] at k; exact k
    | err c => rw [e2] at k; exact fun H' s' => k H' (s1.trans s')
    | ok l =>
      rw [e2, Rs.bind_ok] at k
      intro H2 s2
      refine h6 B H0 N σ H2 ρ _ E ((rp.same s1).same s2) ?_
      cases e3 : fh ρ with
      | bad => rw [e3] at k; exact k
      | err c => rw [e3] at k; exact fun H' s' => k H' ((s1.trans s2).trans s')
      | ok h =>
        rw [e3, Rs.bind_ok] at k
        exact fun H3 s3 => k v H3 ((s1.trans s2).trans s3) (Dw.same (DW.w k1) (s2.trans s3))
def slD (d : PyData) (lo hi : Option Int) : Rs PyData := match d with
  | .tuple ds => .ok (.tuple (cutD ds lo hi))
  | .list ds => .ok (.list (cutD ds lo hi))
  | _ => .bad
def eSl (f : Ev → Rs PyData) (fl fh : Ev → Rs (Option Int)) : Ev → Rs PyData := fun ρ => ((f ρ).bind fun d => (fl ρ).bind fun l => (fh ρ).bind fun h => Rs.ok (d, l, h)).bind fun z => slD z.1 z.2.1 z.2.2
theorem cut_all {ds : List PyData} {lo hi : Option Int} (h : HT.sIx ds.length 0 lo = 0 ∧ HT.sIx ds.length ds.length hi = ds.length) : cutD ds lo hi = ds := by
  unfold cutD
  rw [h.1, h.2, List.drop_zero, Nat.sub_zero, List.take_length]
theorem de_slice {e : Expr} {lo hi : Option Expr} {p2 pos : Pos} {f : Ev → Rs PyData} {fl fh : Ev → Rs (Option Int)} (he : De true S e f) (hl : Do S lo fl) (hh : Do S hi fh) : De w S (.Subscript e (.Slice lo hi none p2) pos) (eSl f fl fh) := by
  obtain ⟨t, tl, th, h1, h2⟩ := slice_run (r := fun x l u H Q => rSlA S.K x l u H Q ∨ rSlL S.K x l u H Q) he hl hh
  refine De.any ⟨fun E => tSl _ (t E) (tl E) (th E), fun X E c => pe_slice (by rw [← c.K]; exact SlR.or sl_tupA sl_list) (h1 X E c).1 (h1 X E c).2.1 (h1 X E c).2.2, fun B H0 N σ H ρ Q E r k => h2 B H0 N σ H ρ Q E r ?_⟩
  unfold eSl at k
  generalize ((f ρ).bind fun d => (fl ρ).bind fun l => (fh ρ).bind fun h => Rs.ok (d, l, h)) = z at k ⊢
  cases z with
  | bad => exact k
  | err c => exact k
  | ok z =>
    rw [Rs.bind_ok] at k
    obtain ⟨d, l, h⟩ := z
    intro v H1 s1 k1
    have k : EE false S N H Q E (slD d l h) := k
    have k1 : Dw S.K N H1 v d := k1
    cases d with
    | tuple ds =>
      obtain ⟨a, xs, rfl, e1, kk⟩ := k1.tup
      refine .inl ⟨a, xs, rfl, e1, fun q => ?_, fun _ p hp => k _ _ (s1.trans (same_upd hp)) (dd_tup hp (dd_cut kk l h))⟩
      rw [kk.len] at q
      have := k (.ref a) H1 s1 (by rw [cut_all q]; exact .tup e1 kk)
      exact this
    | list ds =>
      obtain ⟨a, xs, rfl, e1, kk⟩ := k1.lst
      exact .inr ⟨a, xs, rfl, SqL.of e1, fun p hp => k _ _ (s1.trans (same_upd hp)) (.lst upd_same (new_of (r.told.same s1) hp) ((dd_cut kk l h).same (same_upd hp)))⟩
    | _ => exact k.elim
/-- a slice of a list, as a new one -/
def lSl (f : Ev → Rs PyData) (fl fh : Ev → Rs (Option Int)) : Ev → Rs (List PyData) := fun ρ => ((f ρ).bind fun d => (fl ρ).bind fun l => (fh ρ).bind fun h => Rs.ok (d, l, h)).bind fun z => match z.1 with
  | .list ds => .ok (cutD ds z.2.1 z.2.2)
  | _ => .bad
theorem df_slice {e : Expr} {lo hi : Option Expr} {p2 pos : Pos} {f : Ev → Rs PyData} {fl fh : Ev → Rs (Option Int)} (he : De true S e f) (hl : Do S lo fl) (hh : Do S hi fh) : Df S (.Subscript e (.Slice lo hi none p2) pos) (lSl f fl fh) := by
  obtain ⟨t, tl, th, h1, h2⟩ := slice_run (r := rSlL S.K) he hl hh
  refine ⟨fun E => tSl _ (t E) (tl E) (th E), fun X E c => pe_slice (by rw [← c.K]; exact sl_list) (h1 X E c).1 (h1 X E c).2.1 (h1 X E c).2.2, fun B H0 N σ H ρ Q E r k => h2 B H0 N σ H ρ Q E r ?_⟩
  unfold lSl at k
  generalize ((f ρ).bind fun d => (fl ρ).bind fun l => (fh ρ).bind fun h => Rs.ok (d, l, h)) = z at k ⊢
  cases z with
  | bad => exact k
  | err c => exact k
  | ok z =>
    rw [Rs.bind_ok] at k
    obtain ⟨d, l, h⟩ := z
    intro v H1 s1 k1
    have k1 : Dw S.K N H1 v d := k1
    cases d with
    | list ds =>
      obtain ⟨a, xs, rfl, e1, kk⟩ := k1.lst
      exact ⟨a, xs, rfl, SqL.of e1, (EF.from s1 k).new (dd_cut kk l h)⟩
    | _ => exact k.elim
/-- a[::-1] -/
def e1 (g : PyData → Rs PyData) (f : Ev → Rs PyData) : Ev → Rs PyData := fun ρ => (f ρ).bind g
def revTD : PyData → Rs PyData
  | .tuple ds => .ok (.tuple ds.reverse)
  | _ => .bad
def revLD : PyData → Rs PyData
  | .list ds => .ok (.list ds.reverse)
  | _ => .bad
theorem de_one1 {a e : Expr} {g : PyData → Rs PyData} {f : Ev → Rs PyData} {mk : TE → TE} {r : V → Hp → VK → Prop} (hmk : ∀ X E, Cs S X E → ∀ t, PE X a t → PE X e (mk t)) (hr : ∀ t σ H Q, t σ H (fun x H1 => r x H1 Q) → mk t σ H Q) (hg : ∀ N H x d Q E, Told N H → Dw S.K N H x d → EE w S N H Q E (g d) → r x H Q) (h : De true S a f) : De w S e (e1 g f) := by
  obtain ⟨t, h1, h2⟩ := h
  refine ⟨fun E => mk (t E), fun X E c => hmk X E c _ (h1 X E c), fun B H0 N σ H ρ Q E rp k => hr _ _ _ _ (h2 B H0 N σ H ρ _ E rp ?_)⟩
  unfold e1 at k
  cases e1 : f ρ with
  | bad => rw [e1] at k; exact k
  | err c => rw [e1] at k; exact k
  | ok d =>
    rw [e1, Rs.bind_ok] at k
    exact fun v H1 s1 k1 => hg N H1 v d Q E (rp.same s1).told (DW.w k1) (k.from s1)
theorem de_revT {e : Expr} {k : Nat} {p1 p2 p3 pos : Pos} {f : Ev → Rs PyData} (h : De true S e f) : De w S (.Subscript e (.Slice none none (some (.UnaryOp .USub (.Constant (.int 1) k p1) p2)) p3) pos) (e1 revTD f) := by
  refine de_one1 (mk := tRevT S.K) (r := fun x H1 Q => ∃ a xs, x = .ref a ∧ SqT S.K H1 a xs ∧ ∀ p, H1 p = none → Q (.ref p) (upd H1 p (.tup xs.reverse))) (fun X E c t ht => by rw [← c.K]; exact pe_revT ht) (fun t σ H Q q => q) (fun N H x d Q E t hx k => ?_) h
  cases d with
  | tuple ds =>
    obtain ⟨a, xs, rfl, e1, kk⟩ := hx.tup
    exact ⟨a, xs, rfl, e1, fun p hp => k _ _ (same_upd hp) (.of (dd_tup hp kk.reverse))⟩
  | _ => exact k.elim
theorem de_revL {e : Expr} {k : Nat} {p1 p2 p3 pos : Pos} {f : Ev → Rs PyData} (h : De true S e f) : De w S (.Subscript e (.Slice none none (some (.UnaryOp .USub (.Constant (.int 1) k p1) p2)) p3) pos) (e1 revLD f) := by
  refine de_one1 (mk := tRevL S.K) (r := fun x H1 Q => ∃ a xs, x = .ref a ∧ SqL S.K H1 a xs ∧ ∀ p, H1 p = none → Q (.ref p) (upd H1 p (.lst xs.reverse))) (fun X E c t ht => by rw [← c.K]; exact pe_revL ht) (fun t σ H Q q => q) (fun N H x d Q E t hx k => ?_) h
  cases d with
  | list ds =>
    obtain ⟨a, xs, rfl, e1, kk⟩ := hx.lst
    exact ⟨a, xs, rfl, SqL.of e1, fun p hp => k _ _ (same_upd hp) (.of (dd_lst t hp kk.reverse))⟩
  | _ => exact k.elim
def negD : PyData → Rs PyData
  | .int i => .ok (.int (-i))
  | _ => .bad
theorem de_neg {e : Expr} {pos : Pos} {f : Ev → Rs PyData} (h : De true S e f) : De w S (.UnaryOp .USub e pos) (e1 negD f) := by
  refine de_one1 (mk := tUn (rU fun i => .int (-i))) (r := rU fun i => .int (-i)) (fun X E c t ht => pe_un un_neg ht) (fun t σ H Q q => q) (fun N H x d Q E t hx k => ?_) h
  cases d with
  | int i => exact ⟨i, hx.int, k _ H (Same.refl _) (.of (.int _))⟩
  | _ => exact k.elim
end
section
variable {S : Sx} {w : Bool}
/-! ### calls of built-ins -/
def eCB (g : List PyData → Rs PyData) (fs : Ev → Rs (List PyData)) : Ev → Rs PyData := fun ρ => (fs ρ).bind g
def CallD (S : Sx) (w : Bool) (r : List V → Hp → VK → Prop) (g : List PyData → Rs PyData) : Prop := ∀ N H vs ds Q E, Told N H → Paired (Dw S.K N H) vs ds → EE w S N H Q E (g ds) → r vs H Q
theorem pd_w {N : Addr → Prop} {H : Hp} : ∀ {vs : List V} {ds : List PyData}, Paired (DW true S.K N H) vs ds → Paired (Dw S.K N H) vs ds
  | _, _, .nil => .nil
  | _, _, .cons a b => .cons a (pd_w b)
theorem cb_run {es : List Expr} {g : List PyData → Rs PyData} {r : List V → Hp → VK → Prop} {fs : Ev → Rs (List PyData)} (hD : CallD S w r g) (ha : Da true S es fs) :
    ∃ t : XK → TA, (∀ X E, Cs S X E → PA X es (t E)) ∧ ∀ B H0 N σ H ρ Q E, Rep S.K B H0 N σ H ρ → EE w S N H Q E (eCB g fs ρ) → tCB r (t E) σ H Q := by
  obtain ⟨t, h1, h2, _⟩ := ha
  refine ⟨t, h1, fun B H0 N σ H ρ Q E rp k => h2 B H0 N σ H ρ _ E rp ?_⟩
  unfold eCB at k
  cases e1 : fs ρ with
  | bad => rw [e1] at k; exact k
  | err c => rw [e1] at k; exact k
  | ok d =>
    rw [e1, Rs.bind_ok] at k
    exact fun vs H1 s1 k1 => hD N H1 vs d Q E (rp.same s1).told (pd_w k1) (k.from s1)
theorem de_callB {id : String} {x : Str} {e : Expr} {es : List Expr} {p pos : Pos} {r : List V → Hp → VK → Prop} {g : List PyData → Rs PyData} {fs : Ev → Rs (List PyData)} (hc : ∀ X E, Cs S X E → CallR X (.builtin id) r) (hD : CallD S w r g) (hm : S.mg x = none) (hv : bootBuiltins x = some (.builtin id)) (ha : Da true S (e :: es) fs)
    (hg : Gn S x) (hn : x ≠ "__name__") (hdb : (x == ("__debug__" : Str)) = false)
    (he : ∀ env, starEach (e :: es) env = (false, eval e env) :: starEach es env) (hpl : ∀ env, (backTo pos (starEach es env)).any (·.1) = false) : De w S (.Call (.Name x p) (e :: es) [] pos) (eCB g fs) := by
  obtain ⟨t, h1, h2⟩ := cb_run hD ha
  exact ⟨fun E => tCB r (t E), fun X E c => pe_callB (hc X E c) (gl_of c hg) (by rw [c.mg]; exact hm) hv (h1 X E c) hn hdb (he _) (hpl _), h2⟩
theorem de_callTy {T : String} {x : Str} {e : Expr} {es : List Expr} {p pos : Pos} {r : List V → Hp → VK → Prop} {g : List PyData → Rs PyData} {fs : Ev → Rs (List PyData)} (hc : ∀ X E, Cs S X E → CallR X (.type T) r) (hD : CallD S w r g) (hm : S.mg x = none) (hv : bootBuiltins x = some (.type T)) (ha : Da true S (e :: es) fs)
    (hg : Gn S x) (hn : x ≠ "__name__") (hdb : (x == ("__debug__" : Str)) = false)
    (he : ∀ env, starEach (e :: es) env = (false, eval e env) :: starEach es env) (hpl : ∀ env, (backTo pos (starEach es env)).any (·.1) = false) : De w S (.Call (.Name x p) (e :: es) [] pos) (eCB g fs) := by
  obtain ⟨t, h1, h2⟩ := cb_run hD ha
  exact ⟨fun E => tCB r (t E), fun X E c => pe_callTy (hc X E c) (gl_of c hg) (by rw [c.mg]; exact hm) hv (h1 X E c) hn hdb (he _) (hpl _), h2⟩
theorem pd1 {R : V → PyData → Prop} {vs : List V} {d : PyData} (h : Paired R vs [d]) : ∃ v, vs = [v] ∧ R v d := by
  cases h with
  | cons a b => cases b; exact ⟨_, rfl, a⟩
theorem pd2 {R : V → PyData → Prop} {vs : List V} {d e : PyData} (h : Paired R vs [d, e]) : ∃ v u, vs = [v, u] ∧ R v d ∧ R u e := by
  cases h with
  | cons a b => cases b with | cons c b => cases b; exact ⟨_, _, rfl, a, c⟩
/-- len -/
noncomputable def lenD : List PyData → Rs PyData
  | [.list ds] => .ok (.int ds.length)
  | [.tuple ds] => .ok (.int ds.length)
  | [.dict [(.none, .list ds)]] => .ok (.int ds.length)
  | [.str x] => @ite _ (x.length ≤ lim) (Classical.propDecidable _) (.ok (.int x.length)) (.bad)
  | _ => .bad
theorem cr_or {X : Cx} {f : Value} {r r' : List V → Hp → VK → Prop} (h : CallR X f r) (h' : CallR X f r') : CallR X f (fun vs H Q => r vs H Q ∨ r' vs H Q) := by
  intro pins s σ H vs us Q I rv q
  rcases q with q | q
  · exact h pins s σ H vs us Q I rv q
  · exact h' pins s σ H vs us Q I rv q
theorem callD_len : CallD S w (fun vs H Q => (∃ p ys, vs = [.ref p] ∧ (SqL S.K H p ys ∨ SqT S.K H p ys) ∧ Q (.int ys.length) H) ∨ (∃ x : Str, vs = [.str x] ∧ x.length ≤ sizeLine ∧ Q (.int x.length) H)) lenD := by
  intro N H vs ds Q E t hv k
  unfold lenD at k
  split at k
  · obtain ⟨v, rfl, hx⟩ := pd1 hv
    obtain ⟨a, xs, rfl, e1, kk⟩ := hx.lst
    exact .inl ⟨a, xs, rfl, .inl (SqL.of e1), by rw [kk.len]; exact k _ H (Same.refl _) (.of (.int _))⟩
  · obtain ⟨v, rfl, hx⟩ := pd1 hv
    obtain ⟨a, xs, rfl, e1, kk⟩ := hx.tup
    exact .inl ⟨a, xs, rfl, .inr e1, by rw [kk.len]; exact k _ H (Same.refl _) (.of (.int _))⟩
  · obtain ⟨v, rfl, hx⟩ := pd1 hv
    obtain ⟨a, xs, rfl, e1, kk⟩ := Dw.scr hx
    exact .inl ⟨a, xs, rfl, .inl e1, by rw [kk.len]; exact k _ H (Same.refl _) (.of (.int _))⟩
  · split at k
    · rename_i x hl
      obtain ⟨v, rfl, hx⟩ := pd1 hv
      cases hx.str
      exact .inr ⟨x, rfl, Nat.le_trans hl lim_line, k _ H (Same.refl _) (.of (.int _))⟩
    · exact k.elim
  · exact k.elim
theorem de_len {e : Expr} {p pos : Pos} {fs : Ev → Rs (List PyData)} (hm : S.mg "len" = none) (ha : Da true S [e] fs) (hg : Gn S "len" := by rfl) (he : ∀ env, starEach [e] env = (false, eval e env) :: starEach [] env := by intro _; rfl) : De w S (.Call (.Name "len" p) [e] [] pos) (eCB lenD fs) :=
  de_callB (id := "len") (fun X E c => by rw [← c.K]; exact cr_or call_len_seq (fun pins s σ H vs us Q I rv q => by
    obtain ⟨x, rfl, h1, h2⟩ := q
    exact call_len_str pins s σ H [.str x] us Q I rv ⟨x, rfl, h1, h2⟩)) callD_len hm PySem.boot_len ha hg (by decide) (by decide) he (by intro _; rfl)
/-- tuple(x) -/
def tupleD : List PyData → Rs PyData
  | [.list ds] => .ok (.tuple ds)
  | [.tuple ds] => .ok (.tuple ds)
  | _ => .bad
theorem callD_tuple : CallD S w (fun vs H Q => ∃ p ys, vs = [.ref p] ∧ ((SqL S.K H p ys ∧ ∀ l, H l = none → Q (.ref l) (upd H l (.tup ys))) ∨ (SqT S.K H p ys ∧ Q (.ref p) H))) tupleD := by
  intro N H vs ds Q E t hv k
  unfold tupleD at k
  split at k
  · obtain ⟨v, rfl, hx⟩ := pd1 hv
    obtain ⟨a, xs, rfl, e1, kk⟩ := hx.lst
    exact ⟨a, xs, rfl, .inl ⟨SqL.of e1, fun p hp => k _ _ (same_upd hp) (.of (dd_tup hp kk))⟩⟩
  · obtain ⟨v, rfl, hx⟩ := pd1 hv
    obtain ⟨a, xs, rfl, e1, kk⟩ := hx.tup
    exact ⟨a, xs, rfl, .inr ⟨e1, k _ H (Same.refl _) (.of (.tup e1 kk))⟩⟩
  · exact k.elim
theorem de_tuple {e : Expr} {p pos : Pos} {fs : Ev → Rs (List PyData)} (hm : S.mg "tuple" = none) (ha : Da true S [e] fs) (hg : Gn S "tuple" := by rfl) (he : ∀ env, starEach [e] env = (false, eval e env) :: starEach [] env := by intro _; rfl) : De w S (.Call (.Name "tuple" p) [e] [] pos) (eCB tupleD fs) :=
  de_callTy (T := "tuple") (fun X E c => by rw [← c.K]; exact call_tuple_of) callD_tuple hm (by decide +kernel) ha hg (by decide) (by decide) he (by intro _; rfl)
/-- list(x): a new one -/
def itemsD : PyData → Rs (List PyData)
  | .list ds => .ok ds
  | .tuple ds => .ok ds
  | .dict [(.none, .list ds)] => .ok ds
  | _ => .bad
def lList (f : Ev → Rs PyData) : Ev → Rs (List PyData) := fun ρ => (f ρ).bind itemsD
theorem df_list {e : Expr} {p pos : Pos} {f : Ev → Rs PyData} (hm : S.mg "list" = none) (ha : De true S e f) (hg : Gn S "list" := by rfl) (he : ∀ env, starEach [e] env = (false, eval e env) :: starEach [] env := by intro _; rfl) : Df S (.Call (.Name "list" p) [e] [] pos) (lList f) := by
  obtain ⟨t, h1, h2⟩ := ha
  refine ⟨fun E => tCB (fun xs H Q => ∃ p ys, xs = [.ref p] ∧ (SqL S.K H p ys ∨ SqT S.K H p ys) ∧ ∀ l, H l = none → Q (.ref l) (upd H l (.lst ys))) (tCons (t E) tNil), fun X E c => by
    rw [← c.K]
    exact pe_callTy call_list_of (gl_of c hg) (by rw [c.mg]; exact hm) (by decide +kernel) (pa_cons (h1 X E c) pa_nil (he _)) (by decide) (by decide) (he _) rfl, fun B H0 N σ H ρ Q E rp k => h2 B H0 N σ H ρ _ E rp ?_⟩
  unfold lList at k
  cases e1 : f ρ with
  | bad => rw [e1] at k; exact k
  | err c => rw [e1] at k; exact k
  | ok d =>
    rw [e1, Rs.bind_ok] at k
    intro v H1 s1 k1
    have k1 := DW.w k1
    unfold itemsD at k
    split at k
    · obtain ⟨a, xs, rfl, e1, kk⟩ := k1.lst
      exact ⟨a, xs, rfl, .inl (SqL.of e1), (EF.from s1 k).new kk⟩
    · obtain ⟨a, xs, rfl, e1, kk⟩ := k1.tup
      exact ⟨a, xs, rfl, .inr e1, (EF.from s1 k).new kk⟩
    · obtain ⟨a, xs, rfl, e1, kk⟩ := Dw.scr k1
      exact ⟨a, xs, rfl, .inl e1, (EF.from s1 k).new kk⟩
    · exact k.elim
/-- tuple(range(n)), list(range(n)) -/
def rgD (a b : Int) : List PyData := (List.range (b - a).toNat).map fun (i : Nat) => PyData.int (a + (i : Int))
theorem dd_rg {N : Addr → Prop} {H : Hp} (a b : Int) : DdAll S.K N H (rgV a b) (rgD a b) := by
  unfold rgV rgD
  have q : ∀ l : List Nat, DdAll S.K N H (l.map fun (i : Nat) => V.int (a + (i : Int))) (l.map fun (i : Nat) => PyData.int (a + (i : Int))) := fun l => by
    induction l with
    | nil => exact .nil
    | cons x l ih => exact .cons (.int _) ih
  exact q _
def rgOk (a b : Int) : Bool := decide (-(2 ^ 62) ≤ a) && decide (a < 2 ^ 62) && decide (-(2 ^ 62) ≤ b) && decide (b < 2 ^ 62) && decide ((b - a).toNat ≤ 2 ^ 24)
theorem rgOk_of {a b : Int} (h : rgOk a b = true) : RgOk a b := by
  unfold rgOk at h
  simp only [Bool.and_eq_true, decide_eq_true_eq] at h
  exact ⟨h.1.1.1.1, h.1.1.1.2, h.1.1.2, h.1.2, h.2⟩
noncomputable def rg1D (f : Ev → Rs PyData) : Ev → Rs (Int × Int) := fun ρ => (f ρ).bind fun
  | .int i => @ite _ (rgOk 0 i = true) (Classical.propDecidable _) (.ok (0, i)) (.bad)
  | _ => .bad
noncomputable def rg2D (f g : Ev → Rs PyData) : Ev → Rs (Int × Int) := fun ρ => (f ρ).bind fun d => (g ρ).bind fun e => match d, e with
  | .int i, .int j => @ite _ (rgOk i j = true) (Classical.propDecidable _) (.ok (i, j)) (.bad)
  | _, _ => .bad
def ER (S : Sx) (H : Hp) (Q : Int → Int → Hp → Prop) (E : XK) : Rs (Int × Int) → Prop
  | .bad => False
  | .err c => ∀ H', Same H H' → E (.ref (S.cls c)) none H'
  | .ok z => ∀ H', Same H H' → RgOk z.1 z.2 → Q z.1 z.2 H'
def Dg (S : Sx) (e : Expr) (f : Ev → Rs (Int × Int)) : Prop :=
  ∃ t : XK → L2.St → Hp → (Int → Int → Hp → Prop) → Prop, (∀ X E, Cs S X E → PRg X e (t E)) ∧ ∀ B H0 N σ H ρ Q E, Rep S.K B H0 N σ H ρ → ER S H Q E (f ρ) → t E σ H Q
theorem dg_1 {a : Expr} {p pos : Pos} {f : Ev → Rs PyData} (hm : S.mg "range" = none) (ha : De true S a f) (hg : Gn S "range" := by rfl) (he : ∀ env, starEach [a] env = (false, eval a env) :: starEach [] env := by intro _; rfl) : Dg S (.Call (.Name "range" p) [a] [] pos) (rg1D f) := by
  obtain ⟨t, h1, h2⟩ := ha
  refine ⟨fun E => tRg1 (t E), fun X E c => prg_1 (gl_of c hg) (by rw [c.mg]; exact hm) (h1 X E c) (he _), fun B H0 N σ H ρ Q E rp k => h2 B H0 N σ H ρ _ E rp ?_⟩
  unfold rg1D at k
  cases e1 : f ρ with
  | bad => rw [e1] at k; exact k
  | err c => rw [e1] at k; exact k
  | ok d =>
    rw [e1, Rs.bind_ok] at k
    intro v H1 s1 k1
    cases d with
    | int i =>
      have k : ER S H Q E (@ite _ (rgOk 0 i = true) (Classical.propDecidable _) (.ok (0, i)) .bad) := k
      by_cases hr : rgOk 0 i = true
      · rw [if_pos hr] at k
        exact ⟨i, (DW.w k1).int, k H1 s1 (rgOk_of hr)⟩
      · rw [if_neg hr] at k
        exact k.elim
    | _ => exact k.elim
theorem dg_2 {a b : Expr} {p pos : Pos} {f g : Ev → Rs PyData} (hm : S.mg "range" = none) (ha : De true S a f) (hb : De true S b g) (hg : Gn S "range" := by rfl) (he : ∀ env, starEach [a, b] env = (false, eval a env) :: starEach [b] env := by intro _; rfl) (he2 : ∀ env, starEach [b] env = (false, eval b env) :: starEach [] env := by intro _; rfl) : Dg S (.Call (.Name "range" p) [a, b] [] pos) (rg2D f g) := by
  obtain ⟨t, h1, h2⟩ := ha
  obtain ⟨u, h3, h4⟩ := hb
  refine ⟨fun E => tRg2 (t E) (u E), fun X E c => prg_2 (gl_of c hg) (by rw [c.mg]; exact hm) (h1 X E c) (h3 X E c) (he _) (he2 _) (by rw [he2]; rfl), fun B H0 N σ H ρ Q E rp k => h2 B H0 N σ H ρ _ E rp ?_⟩
  unfold rg2D at k
  cases e1 : f ρ with
  | bad => rw [e1] at k; exact k
  | err c => rw [e1] at k; exact k
  | ok d =>
    rw [e1, Rs.bind_ok] at k
    intro v H1 s1 k1
    refine h4 B H0 N σ H1 ρ _ E (rp.same s1) ?_
    cases e2 : g ρ with
    | bad => rw [e2] at k; exact k
    | err c => rw [e2] at k; exact fun H' s' => k H' (s1.trans s')
    | ok e =>
      rw [e2, Rs.bind_ok] at k
      intro y H2 s2 k2
      split at k
      · rename_i i j
        by_cases hr : rgOk i j = true
        · rw [if_pos hr] at k
          exact ⟨i, j, (DW.w k1).int, (DW.w k2).int, k H2 (s1.trans s2) (rgOk_of hr)⟩
        · rw [if_neg hr] at k
          exact k.elim
      · exact k.elim
def eTupR (f : Ev → Rs (Int × Int)) : Ev → Rs PyData := fun ρ => (f ρ).bind fun z => .ok (.tuple (rgD z.1 z.2))
def lRg (f : Ev → Rs (Int × Int)) : Ev → Rs (List PyData) := fun ρ => (f ρ).bind fun z => .ok (rgD z.1 z.2)
theorem de_tupR {e : Expr} {p pos : Pos} {f : Ev → Rs (Int × Int)} (hm : S.mg "tuple" = none) (h : Dg S e f) (hg : Gn S "tuple" := by rfl) (he : ∀ env, starEach [e] env = (false, eval e env) :: starEach [] env := by intro _; rfl) : De w S (.Call (.Name "tuple" p) [e] [] pos) (eTupR f) := by
  obtain ⟨t, h1, h2⟩ := h
  refine De.any ⟨fun E => tTupRg (t E), fun X E c => pe_tupRg c.calm (gl_of c hg) (by rw [c.mg]; exact hm) (h1 X E c) (he _), fun B H0 N σ H ρ Q E rp k => h2 B H0 N σ H ρ _ E rp ?_⟩
  unfold eTupR at k
  cases e1 : f ρ with
  | bad => rw [e1] at k; exact k
  | err c => rw [e1] at k; exact k
  | ok z =>
    rw [e1, Rs.bind_ok] at k
    exact fun H1 s1 hr => ⟨hr, fun p hp => k _ _ (s1.trans (same_upd hp)) (dd_tup hp (dd_rg _ _))⟩
theorem df_listR {e : Expr} {p pos : Pos} {f : Ev → Rs (Int × Int)} (hm : S.mg "list" = none) (h : Dg S e f) (hg : Gn S "list" := by rfl) (he : ∀ env, starEach [e] env = (false, eval e env) :: starEach [] env := by intro _; rfl) : Df S (.Call (.Name "list" p) [e] [] pos) (lRg f) := by
  obtain ⟨t, h1, h2⟩ := h
  refine ⟨fun E => tLstRg (t E), fun X E c => pe_listRg c.calm (gl_of c hg) (by rw [c.mg]; exact hm) (h1 X E c) (he _), fun B H0 N σ H ρ Q E rp k => h2 B H0 N σ H ρ _ E rp ?_⟩
  unfold lRg at k
  cases e1 : f ρ with
  | bad => rw [e1] at k; exact k
  | err c => rw [e1] at k; exact k
  | ok z =>
    rw [e1, Rs.bind_ok] at k
    exact fun H1 s1 hr => ⟨hr, (EF.from s1 k).new (dd_rg _ _)⟩
/-! ### lists of numbers, of truths -/
def asInts : List PyData → Option (List Int)
  | [] => some []
  | .int i :: r => (asInts r).map (i :: ·)
  | _ => none
def asBools : List PyData → Option (List Bool)
  | [] => some []
  | .bool i :: r => (asBools r).map (i :: ·)
  | _ => none
theorem asInts_map : ∀ ns : List Int, asInts (ns.map PyData.int) = some ns
  | [] => rfl
  | n :: r => by rw [List.map_cons, asInts, asInts_map r]; rfl
theorem asBools_map : ∀ ns : List Bool, asBools (ns.map PyData.bool) = some ns
  | [] => rfl
  | n :: r => by rw [List.map_cons, asBools, asBools_map r]; rfl
theorem dd_ints {N : Addr → Prop} {H : Hp} : ∀ {xs : List V} {ds : List PyData} {ns : List Int}, DdAll S.K N H xs ds → asInts ds = some ns → xs = ns.map V.int
  | _, _, ns, .nil, h => by
    cases h
    rfl
  | _, _, ns, .cons a b, h => by
    cases a with
    | int i =>
      rename_i ds
      rw [asInts] at h
      cases q : asInts ds with
      | none => rw [q] at h; cases h
      | some ms =>
        rw [q] at h
        cases h
        rw [dd_ints b q]
        rfl
    | _ => cases h
theorem dd_bools {N : Addr → Prop} {H : Hp} : ∀ {xs : List V} {ds : List PyData} {ns : List Bool}, DdAll S.K N H xs ds → asBools ds = some ns → xs = ns.map V.bl
  | _, _, ns, .nil, h => by
    cases h
    rfl
  | _, _, ns, .cons a b, h => by
    cases a with
    | bl i =>
      rename_i ds
      rw [asBools] at h
      cases q : asBools ds with
      | none => rw [q] at h; cases h
      | some ms =>
        rw [q] at h
        cases h
        rw [dd_bools b q]
        rfl
    | _ => cases h
def sumD : List PyData → Rs PyData
  | [.list ds] => match asInts ds with
    | some ns => .ok (.int ns.sum)
    | none => .bad
  | _ => .bad
theorem callD_sum : CallD S w (rSum S.K) sumD := by
  intro N H vs ds Q E t hv k
  unfold sumD at k
  split at k
  · split at k
    · rename_i ns hn
      obtain ⟨v, rfl, hx⟩ := pd1 hv
      obtain ⟨a, xs, rfl, e1, kk⟩ := hx.lst
      exact ⟨a, ns, rfl, by rw [← dd_ints kk hn]; exact SqL.of e1, k _ H (Same.refl _) (.of (.int _))⟩
    · exact k.elim
  · exact k.elim
theorem de_sum {e : Expr} {p pos : Pos} {fs : Ev → Rs (List PyData)} (hm : S.mg "sum" = none) (ha : Da true S [e] fs) (hg : Gn S "sum" := by rfl) (he : ∀ env, starEach [e] env = (false, eval e env) :: starEach [] env := by intro _; rfl) : De w S (.Call (.Name "sum" p) [e] [] pos) (eCB sumD fs) :=
  de_callB (id := "sum") (fun X E c => by rw [← c.K]; exact cr_sum c.calm) callD_sum hm (by decide +kernel) ha hg (by decide) (by decide) he (by intro _; rfl)
def maxI : List Int → Int
  | [] => 0
  | [x] => x
  | x :: y :: r => max x (maxI (y :: r))
theorem maxI_mem : ∀ {ns : List Int}, 0 < ns.length → maxI ns ∈ ns ∧ ∀ y ∈ ns, y ≤ maxI ns
  | [x], _ => ⟨List.mem_singleton.mpr rfl, fun y hy => by rw [List.mem_singleton.mp hy]; exact Int.le_refl _⟩
  | x :: y :: r, _ => by
    obtain ⟨h1, h2⟩ := maxI_mem (ns := y :: r) (by simp)
    show max x (maxI (y :: r)) ∈ _ ∧ ∀ z ∈ _, z ≤ max x (maxI (y :: r))
    refine ⟨?_, fun z hz => ?_⟩
    · by_cases h : x ≤ maxI (y :: r)
      · rw [Int.max_eq_right h]
        exact List.mem_cons_of_mem _ h1
      · rw [Int.max_eq_left (by omega)]
        exact List.mem_cons_self
    · rcases List.mem_cons.mp hz with rfl | hz
      · omega
      · have := h2 z hz
        omega
noncomputable def maxLD : List PyData → Rs PyData
  | [.list ds] => match asInts ds with
    | some ns => @ite _ (0 < ns.length) (Classical.propDecidable _) (.ok (.int (maxI ns))) (.bad)
    | none => .bad
  | _ => .bad
theorem callD_maxL : CallD S w (rMax S.K) maxLD := by
  intro N H vs ds Q E t hv k
  unfold maxLD at k
  split at k
  · split at k
    · rename_i ns hn
      split at k
      · rename_i h0
        obtain ⟨v, rfl, hx⟩ := pd1 hv
        obtain ⟨a, xs, rfl, e1, kk⟩ := hx.lst
        refine ⟨a, ns, rfl, by rw [← dd_ints kk hn]; exact SqL.of e1, h0, fun m hm hle => ?_⟩
        have q := maxI_mem h0
        have e : m = maxI ns := by
          have h1 := hle _ q.1
          have h2 := q.2 _ hm
          omega
        rw [e]
        exact k _ H (Same.refl _) (.of (.int _))
      · exact k.elim
    · exact k.elim
  · exact k.elim
theorem de_maxL {e : Expr} {p pos : Pos} {fs : Ev → Rs (List PyData)} (hm : S.mg "max" = none) (ha : Da true S [e] fs) (hg : Gn S "max" := by rfl) (he : ∀ env, starEach [e] env = (false, eval e env) :: starEach [] env := by intro _; rfl) : De w S (.Call (.Name "max" p) [e] [] pos) (eCB maxLD fs) :=
  de_callB (id := "max") (fun X E c => by rw [← c.K]; exact cr_max c.calm) callD_maxL hm (by decide +kernel) ha hg (by decide) (by decide) he (by intro _; rfl)
def allD : List PyData → Rs PyData
  | [.list ds] => match asBools ds with
    | some ns => .ok (.bool (ns.all id))
    | none => .bad
  | _ => .bad
theorem callD_all : CallD S w (rAll S.K) allD := by
  intro N H vs ds Q E t hv k
  unfold allD at k
  split at k
  · split at k
    · rename_i ns hn
      obtain ⟨v, rfl, hx⟩ := pd1 hv
      obtain ⟨a, xs, rfl, e1, kk⟩ := hx.lst
      exact ⟨a, ns, rfl, by rw [← dd_bools kk hn]; exact SqL.of e1, k _ H (Same.refl _) (.of (.bl _))⟩
    · exact k.elim
  · exact k.elim
theorem de_all {e : Expr} {p pos : Pos} {fs : Ev → Rs (List PyData)} (hm : S.mg "all" = none) (ha : Da true S [e] fs) (hg : Gn S "all" := by rfl) (he : ∀ env, starEach [e] env = (false, eval e env) :: starEach [] env := by intro _; rfl) : De w S (.Call (.Name "all" p) [e] [] pos) (eCB allD fs) :=
  de_callB (id := "all") (fun X E c => by rw [← c.K]; exact cr_all c.calm) callD_all hm (by decide +kernel) ha hg (by decide) (by decide) he (by intro _; rfl)
/-! ### numbers -/
def max2D : List PyData → Rs PyData
  | [.int i, .int j] => .ok (.int (if j > i then j else i))
  | _ => .bad
theorem callD_max2 : CallD S w (fun xs H Q => ∃ i j, xs = [.int i, .int j] ∧ Q (.int (if j > i then j else i)) H) max2D := by
  intro N H vs ds Q E t hv k
  unfold max2D at k
  split at k
  · rename_i i j
    obtain ⟨v, u, rfl, hx, hy⟩ := pd2 hv
    cases hx.int
    cases hy.int
    exact ⟨i, j, rfl, k _ H (Same.refl _) (.of (.int _))⟩
  · exact k.elim
theorem de_max2 {e e' : Expr} {p pos : Pos} {fs : Ev → Rs (List PyData)} (hm : S.mg "max" = none) (ha : Da true S [e, e'] fs) (hg : Gn S "max" := by rfl) (he : ∀ env, starEach [e, e'] env = (false, eval e env) :: starEach [e'] env := by intro _; rfl) (hpl : ∀ env, (backTo pos (starEach [e'] env)).any (·.1) = false := by intro _; rfl) : De w S (.Call (.Name "max" p) [e, e'] [] pos) (eCB max2D fs) :=
  de_callB (id := "max") (fun X E c => call_max2 c.calm) callD_max2 hm (by decide +kernel) ha hg (by decide) (by decide) he hpl
def min2D : List PyData → Rs PyData
  | [.int i, .int j] => .ok (.int (if j < i then j else i))
  | _ => .bad
theorem callD_min2 : CallD S w (fun xs H Q => ∃ i j, xs = [.int i, .int j] ∧ Q (.int (if j < i then j else i)) H) min2D := by
  intro N H vs ds Q E t hv k
  unfold min2D at k
  split at k
  · rename_i i j
    obtain ⟨v, u, rfl, hx, hy⟩ := pd2 hv
    cases hx.int
    cases hy.int
    exact ⟨i, j, rfl, k _ H (Same.refl _) (.of (.int _))⟩
  · exact k.elim
theorem de_min2 {e e' : Expr} {p pos : Pos} {fs : Ev → Rs (List PyData)} (hm : S.mg "min" = none) (ha : Da true S [e, e'] fs) (hg : Gn S "min" := by rfl) (he : ∀ env, starEach [e, e'] env = (false, eval e env) :: starEach [e'] env := by intro _; rfl) (hpl : ∀ env, (backTo pos (starEach [e'] env)).any (·.1) = false := by intro _; rfl) : De w S (.Call (.Name "min" p) [e, e'] [] pos) (eCB min2D fs) :=
  de_callB (id := "min") (fun X E c => call_min2 c.calm) callD_min2 hm (by decide +kernel) ha hg (by decide) (by decide) he hpl
noncomputable def divmodD : List PyData → Rs PyData
  | [.int i, .int j] => @ite _ ((decide (0 < j) && wide j) = true) (Classical.propDecidable _) (.ok (.tuple [.int (i / j), .int (i % j)])) (.bad)
  | _ => .bad
theorem callD_divmod : CallD S w (fun xs H Q => ∃ i j, xs = [.int i, .int j] ∧ CDivP i j ∧ ∀ p, H p = none → Q (.ref p) (upd H p (.tup [.int (i / j), .int (i % j)]))) divmodD := by
  intro N H vs ds Q E t hv k
  unfold divmodD at k
  split at k
  · rename_i i j
    split at k
    · rename_i hc
      rw [Bool.and_eq_true] at hc
      obtain ⟨v, u, rfl, hx, hy⟩ := pd2 hv
      cases hx.int
      cases hy.int
      exact ⟨i, j, rfl, ⟨of_decide_eq_true hc.1, PyProof.noPylong_of_log2 (of_decide_eq_true hc.2)⟩, fun p hp => k _ _ (same_upd hp) (.of (dd_tup hp (.cons (.int _) (.cons (.int _) .nil))))⟩
    · exact k.elim
  · exact k.elim
theorem de_divmod {e e' : Expr} {p pos : Pos} {fs : Ev → Rs (List PyData)} (hm : S.mg "divmod" = none) (ha : Da true S [e, e'] fs) (hg : Gn S "divmod" := by rfl) (he : ∀ env, starEach [e, e'] env = (false, eval e env) :: starEach [e'] env := by intro _; rfl) (hpl : ∀ env, (backTo pos (starEach [e'] env)).any (·.1) = false := by intro _; rfl) : De w S (.Call (.Name "divmod" p) [e, e'] [] pos) (eCB divmodD fs) :=
  de_callB (id := "divmod") (fun X E c => call_divmodW) callD_divmod hm (by decide +kernel) ha hg (by decide) (by decide) he hpl
def absD : List PyData → Rs PyData
  | [.int i] => .ok (.int (if i < 0 then -i else i))
  | _ => .bad
theorem callD_abs : CallD S w (fun xs H Q => ∃ i, xs = [.int i] ∧ Q (.int (if i < 0 then -i else i)) H) absD := by
  intro N H vs ds Q E t hv k
  unfold absD at k
  split at k
  · rename_i i
    obtain ⟨v, rfl, hx⟩ := pd1 hv
    cases hx.int
    exact ⟨i, rfl, k _ H (Same.refl _) (.of (.int _))⟩
  · exact k.elim
theorem de_abs {e : Expr} {p pos : Pos} {fs : Ev → Rs (List PyData)} (hm : S.mg "abs" = none) (ha : Da true S [e] fs) (hg : Gn S "abs" := by rfl) (he : ∀ env, starEach [e] env = (false, eval e env) :: starEach [] env := by intro _; rfl) : De w S (.Call (.Name "abs" p) [e] [] pos) (eCB absD fs) :=
  de_callB (id := "abs") (fun X E c => call_abs) callD_abs hm (by decide +kernel) ha hg (by decide) (by decide) he (by intro _; rfl)
def intOfD : List PyData → Rs PyData
  | [.int i] => .ok (.int i)
  | [.bool b] => .ok (.int (if b then 1 else 0))
  | _ => .bad
theorem callD_int : CallD S w (fun xs H Q => (∃ i, xs = [.int i] ∧ Q (.int i) H) ∨ ∃ k, xs = [.bl k] ∧ Q (.int (if k then 1 else 0)) H) intOfD := by
  intro N H vs ds Q E t hv k
  unfold intOfD at k
  split at k
  · rename_i i
    obtain ⟨v, rfl, hx⟩ := pd1 hv
    cases hx.int
    exact .inl ⟨i, rfl, k _ H (Same.refl _) (.of (.int _))⟩
  · rename_i b
    obtain ⟨v, rfl, hx⟩ := pd1 hv
    cases hx.bl
    exact .inr ⟨b, rfl, k _ H (Same.refl _) (.of (.int _))⟩
  · exact k.elim
theorem de_intOf {e : Expr} {p pos : Pos} {fs : Ev → Rs (List PyData)} (hm : S.mg "int" = none) (ha : Da true S [e] fs) (hg : Gn S "int" := by rfl) (he : ∀ env, starEach [e] env = (false, eval e env) :: starEach [] env := by intro _; rfl) : De w S (.Call (.Name "int" p) [e] [] pos) (eCB intOfD fs) :=
  de_callTy (T := "int") (fun X E c => call_int1) callD_int hm (by decide +kernel) ha hg (by decide) (by decide) he (by intro _; rfl)
/-! ### isinstance -/
def isDict : PyData → Bool
  | .dict _ => true
  | _ => false
def isiD (T : String) (d : PyData) : Rs PyData := if isDict d then .bad else match kitB (tyD d) T with
  | some b => .ok (.bool b)
  | none => .bad
theorem dw_ty {N : Addr → Prop} {H : Hp} {v : V} {d : PyData} (h : Dw S.K N H v d) (hn : ∀ kvs, d ≠ .dict kvs) : TyX S.K H v (.type (tyD d)) := by
  cases h with
  | own e _ => exact .base (.lst e)
  | dct _ _ => exact absurd rfl (hn _)
  | dd h =>
    cases h with
    | non => exact .base .non
    | bl b => exact .base (.bl b)
    | int i => exact .base (.int i)
    | str x => exact .base (.str x)
    | lst e _ _ => exact .base (.lst e)
    | scr _ _ => exact absurd rfl (hn _)
    | tup e _ =>
      rcases e with (e | ⟨o, e⟩) | ⟨o, its, n, e, c, _⟩
      · exact .base (.tup e)
      · exact .fTuple e
      · exact .kTuple e c
end
section
variable {S : Sx} {w : Bool}
theorem de_isi {e : Expr} {T : Str} {Tn : String} {p p2 pos : Pos} {f : Ev → Rs PyData} (hm : S.mg "isinstance" = none) (hT : S.mg T = none) (hb : bootBuiltins T = some (.type Tn)) (h : De true S e f) (hg : Gn S "isinstance" := by rfl) (hgT : Gn S T := by rfl)
    (hn : T ≠ "__name__" := by decide) (hd : (T == ("__debug__" : Str)) = false := by decide) (he : ∀ env, starEach [e, .Name T p2] env = (false, eval e env) :: starEach [.Name T p2] env := by intro _; rfl) : De w S (.Call (.Name "isinstance" p) [e, .Name T p2] [] pos) (e1 (isiD Tn) f) := by
  obtain ⟨t, h1, h2⟩ := h
  refine ⟨fun E => tCB (rIsi S.K) (tCons (t E) (tCons (tC (.ty Tn)) tNil)), fun X E c => by
    rw [← c.K]
    exact pe_callB call_isi (gl_of c hg) (by rw [c.mg]; exact hm) (by decide +kernel) (pa_cons (h1 X E c) (pa_cons (pe_bltn (v := .ty Tn) (gl_of c hgT) (by rw [c.mg]; exact hT) hb rfl hn hd) pa_nil rfl) (he _)) (by decide) (by decide) (he _) rfl, fun B H0 N σ H ρ Q E rp k => h2 B H0 N σ H ρ _ E rp ?_⟩
  unfold e1 at k
  cases e1 : f ρ with
  | bad => rw [e1] at k; exact k
  | err c => rw [e1] at k; exact k
  | ok d =>
    rw [e1, Rs.bind_ok] at k
    intro v H1 s1 k1
    unfold isiD at k
    by_cases hi : isDict d = true
    · rw [if_pos hi] at k
      exact k.elim
    · rw [if_neg hi] at k
      cases hk : kitB (tyD d) Tn with
      | none => rw [hk] at k; exact k.elim
      | some b =>
        rw [hk] at k
        exact ⟨v, .ty Tn, .type (tyD d), .type Tn, b, rfl, .ty Tn, dw_ty (DW.w k1) (fun kvs z => hi (by rw [z]; rfl)), kit_ty hk, k _ H1 s1 (.of (.bl _))⟩
theorem isi_int {d : PyData} (h : ∀ kvs, d ≠ .dict kvs) : isiD "int" d = .ok (.bool (intD d)) := by
  have := kit_intD h
  unfold isiD
  rw [this]
  cases d <;> first | rfl | exact absurd rfl (h _)
theorem isi_bool {d : PyData} (h : ∀ kvs, d ≠ .dict kvs) : isiD "bool" d = .ok (.bool (boolD d)) := by
  have := kit_boolD h
  unfold isiD
  rw [this]
  cases d <;> first | rfl | exact absurd rfl (h _)
theorem isi_tuple {d : PyData} (h : ∀ kvs, d ≠ .dict kvs) : isiD "tuple" d = .ok (.bool (tupD d)) := by
  have := kit_tupD h
  unfold isiD
  rw [this]
  cases d <;> first | rfl | exact absurd rfl (h _)
/-! ### defs of the text -/
def spD (K : PySem.W.Frag) (cls : Str → Addr) (n : Nat) (F : List PyData → Rs PyData) : Sp := fun vs H Q E => ∃ N ds, vs.length = n ∧ DdAll K N H vs ds ∧ Told N H ∧
  match F ds with
  | .bad => False
  | .err c => ∀ H', Same H H' → E (.ref (cls c)) none H'
  | .ok d => ∀ v H', Same H H' → Dd K N H' v d → Q v H'
/-- the def at f does as F -/
structure Fd (S : Gx) (k : Nat) (x : Str) (n : Nat) (F : List PyData → Rs PyData) : Prop where
  h : ∃ (f : Addr) (fd : FuncData) (ps : List Str), FnOk S.P S.w S.K S.mg S.base (L2.CX S.P S.w) k f fd ps (spD S.K S.cls n F) ∧ S.mg x = some (.ref f) ∧ PySem.W.keepIn S.K (.ref f) = true ∧ Binds S.K fd ps []
theorem Fd.mono {S : Gx} {j k : Nat} {x : Str} {n : Nat} {F : List PyData → Rs PyData} (h : Fd S j x n F) (l : j ≤ k) : Fd S k x n F := let ⟨f, fd, ps, G, r⟩ := h.h; ⟨f, fd, ps, G.mono l, r⟩
def eCall (F : List PyData → Rs PyData) (fs : Ev → Rs (List PyData)) : Ev → Rs PyData := fun ρ => (fs ρ).bind F
theorem call_end {N : Addr → Prop} {H : Hp} {Q : VK} {E : XK} {n : Nat} {F : List PyData → Rs PyData} {vs : List V} {ds : List PyData} (hl : vs.length = n) (hd : DdAll S.K N H vs ds) (t : Told N H) (k : EE w S N H Q E (F ds)) : spD S.K S.cls n F (vs ++ []) H Q E := by
  rw [List.append_nil]
  refine ⟨N, ds, hl, hd, t, ?_⟩
  cases e : F ds with
  | bad => rw [e] at k; exact k
  | err c => rw [e] at k; exact k
  | ok d =>
    rw [e] at k
    exact fun v H' s' kk => k v H' s' (.of kk)
theorem de_call {x : Str} {e : Expr} {es : List Expr} {n : Nat} {F : List PyData → Rs PyData} {p pos : Pos} {fs : Ev → Rs (List PyData)} (G : Fd S.toGx S.k x n F) (ha : Da false S (e :: es) fs) (hl : (e :: es).length = n := by rfl) (hg : Gn S x := by rfl) (hdb : (x == ("__debug__" : Str)) = false := by decide)
    (he : ∀ env, starEach (e :: es) env = (false, eval e env) :: starEach es env := by intro _; rfl) (hpl : ∀ env, (backTo pos (starEach es env)).any (·.1) = false := by intro _; rfl) : De w S (.Call (.Name x p) (e :: es) [] pos) (eCall F fs) := by
  obtain ⟨f, fd, ps, G, hm, hk, hb⟩ := G.h
  obtain ⟨t, h1, h2, h3⟩ := ha
  refine ⟨fun E => tCall (spD S.K S.cls n F) [] E (t E), fun X E c => ?_, fun B H0 N σ H ρ Q E rp k => h2 B H0 N σ H ρ _ E rp ?_⟩
  · have hx : Passes (L2.CX X.prog X.w) X E := passes_call c.tk fun _ _ _ _ h => h
    rw [← c.p, ← c.w, ← c.K, ← c.mg, ← c.base] at G
    rw [← c.K] at hk hb
    rw [← c.mg] at hm
    show PE X _ (tCall (spD S.K S.cls n F) [] E (t E))
    rw [← c.K]
    exact pe_call G c.room (gl_of c hg) hm hk hb .nil hx (h1 X E c) hdb (he _) (hpl _)
  · unfold eCall at k
    cases e1 : fs ρ with
    | bad => rw [e1] at k; exact k
    | err c => rw [e1] at k; exact k
    | ok ds =>
      rw [e1, Rs.bind_ok] at k
      intro vs H1 s1 k1
      have hd := pd_all k1
      exact call_end (by rw [hd.len, h3 ρ ds e1]; exact hl) hd (rp.same s1).told (k.from s1)
theorem de_call0 {x : Str} {F : List PyData → Rs PyData} {p pos : Pos} (G : Fd S.toGx S.k x 0 F) (hg : Gn S x := by rfl) (hdb : (x == ("__debug__" : Str)) = false := by decide) : De w S (.Call (.Name x p) [] [] pos) (eCall F aNil) := by
  obtain ⟨f, fd, ps, G, hm, hk, hb⟩ := G.h
  refine ⟨fun E => tCall (spD S.K S.cls 0 F) [] E tNil, fun X E c => ?_, fun B H0 N σ H ρ Q E rp k => ?_⟩
  · have hx : Passes (L2.CX X.prog X.w) X E := passes_call c.tk fun _ _ _ _ h => h
    rw [← c.p, ← c.w, ← c.K, ← c.mg, ← c.base] at G
    rw [← c.K] at hk hb
    rw [← c.mg] at hm
    show PE X _ (tCall (spD S.K S.cls 0 F) [] E tNil)
    rw [← c.K]
    exact pe_call0 G c.room (gl_of c hg) hm hk hb .nil hx hdb
  · exact call_end (vs := []) rfl .nil rp.told k
end
/-! ### lists or tuples walked -/
section
variable {X : Cx} {tg : Expr}
/-- an iterator of one new cell has come -/
theorem pie_push {pins : List (Addr × Obj)} {σ : L2.St} {H : Hp} {s : Shared} {R : It → Hp → Prop} {J : It} {o : Obj} {tn : Nat → Heap → Prop} (I : Inv X pins σ H s) (T : Turn X.prog X.w X.K tg J [s.heap.objs.size] s.heap.objs.size tn) (t0 : tn 0 (s.heap.push o)) (q : R J H) : PIE X pins σ tg R (.ref s.heap.objs.size) { s with heap := s.heap.push o } :=
  ⟨_, _, tn, J, H, rfl, I.kept (fun _ _ => Heap.get?_push_of_some _), T, t0, fun b hb => by
    rw [List.mem_singleton.mp hb]
    exact I.fpOk (Nat.le_refl _) (I.hok.fresh (Nat.le_refl _)), q⟩
/-- one of two new cells -/
theorem pie_two {pins : List (Addr × Obj)} {σ : L2.St} {H : Hp} {s : Shared} {h' : Heap} {R : It → Hp → Prop} {J : It} {tn : Nat → Heap → Prop} (I : Inv X pins σ H s) (k : ∀ b o, s.heap.get? b = some o → h'.get? b = some o) (T : Turn X.prog X.w X.K tg J [s.heap.objs.size + 1, s.heap.objs.size] (s.heap.objs.size + 1) tn) (t0 : tn 0 h') (q : R J H) : PIE X pins σ tg R (.ref (s.heap.objs.size + 1)) { s with heap := h' } :=
  ⟨_, _, tn, J, H, rfl, I.kept k, T, t0, fun b hb => by
    have hle : s.heap.objs.size ≤ b := by
      rcases List.mem_cons.mp hb with z | z
      · rw [z]
        exact Nat.le_succ _
      · rw [List.mem_singleton.mp z]
        exact Nat.le_refl _
    exact I.fpOk hle (I.hok.fresh hle), q⟩
def iSeq (K : PySem.W.Frag) (tl : TE) : TI := fun σ H R => tl σ H fun x H1 => ∃ a, x = .ref a ∧ (((∃ xs, SqL K H1 a xs) ∧ R (Itl K a) H1) ∨ ((∃ xs, SqT K H1 a xs) ∧ R (Itt K a) H1))
theorem pi_seq {l : Expr} {tl : TE} (hl : PE X l tl) : PI X tg l (iSeq X.K tl) where
  run := fun pins s σ H R I h => thn (hl.run pins s σ H _ I h) fun v s1 ⟨x, H1, I1, r1, a, e, d⟩ => by
    cases e
    cases r1
    rcases d with ⟨⟨xs, hq⟩, q⟩ | ⟨⟨xs, hq⟩, q⟩
    · obtain ⟨its, -, p, -⟩ := I1.list hq
      exact wpAny_pyIter_list p.isList (pie_push I1 (turn_list a _) ⟨_, Heap.get?_push_size _ rfl, rfl, rfl⟩ q)
    · obtain ⟨its, -, p, -⟩ := I1.tuple hq
      exact wpAny_pyIter_tuple (items := its.toArray) p (pie_push I1 (turn_tuple a _) ⟨_, Heap.get?_push_size _ rfl, rfl, rfl⟩ q)
def iEnumA (K : PySem.W.Frag) (ta : TA) : TI := fun σ H R => ta σ H fun vs H1 => ∃ a xs, vs = [.ref a] ∧ ((SqL K H1 a xs ∧ R (Ite K a) H1) ∨ (SqT K H1 a xs ∧ R (ItE K a) H1))
theorem pi_enumA {e : Expr} {ta : TA} {p pos tpos : Pos} {elts : List Expr} {kk : Nat} (hg : Gl X "enumerate") (hm : X.mg "enumerate" = none) (ha : PA X [e] ta) (hs : starEach [e] X.env = [(false, eval e X.env)] := by rfl) :
    PI X (.Tuple elts kk tpos) (.Call (.Name "enumerate" p) [e] [] pos) (iEnumA X.K ta) where
  run := fun pins s σ H R I h => Call_ (ld_blt I hg hm boot_enumerate (PyProof.Rows.callWith_type1 (thn (ha.run pos pins s σ H _ I h) fun us s1 ⟨vs, H1, I1, r1, a, xs, ex, d⟩ => by
    subst ex
    rcases r1 with _ | ⟨r, _ | _⟩
    cases r
    rcases d with ⟨hq, q⟩ | ⟨hq, q⟩
    · obtain ⟨its, -, p', -⟩ := I1.list hq
      exact call_enumerate_list p'.isList fun h' he hit _ hk => wpAny_pyIter_enum he (pie_two I1 hk (turn_enum a _ _) ⟨⟨.none, he⟩, hit, Nat.succ_ne_self _⟩ q)
    · obtain ⟨its, -, p', -⟩ := I1.tuple hq
      have hal : a < s1.heap.objs.size := let ⟨_, e, _⟩ := p'; Heap.lt_size e
      exact call_enumT p' fun h' he hit hk => wpAny_pyIter_enum he (pie_two I1 hk (turn_enumT a _ _ (fun z => Nat.lt_irrefl _ (Nat.lt_trans (z ▸ hal) (Nat.lt_succ_self _))) (Nat.ne_of_lt hal) (Nat.succ_ne_self _)) ⟨⟨.none, he⟩, hit⟩ q)) hs rfl))
end
section
variable {S : Sx} {w : Bool}
/-! ### what is walked, as a list of data -/
structure JOk (K : PySem.W.Frag) (J : It) (ds : List PyData) (N : Addr → Prop) (H : Hp) : Prop where
  h : ∃ Sr : (Addr → Prop) → Hp → Prop, Sr N H ∧ (∀ N H N' H', Sr N H → KeepF N H N' H' → Sr N' H') ∧ (∀ N H (i : Nat) d, Sr N H → ds[i]? = some d → J.go i H ∧ ∀ v H', J.yld i H v H' → Same H H' ∧ Dd K N H' v d) ∧ ∀ N H, Sr N H → J.stop ds.length H
structure JOkW (K : PySem.W.Frag) (J : It) (ds : List PyData) (N : Addr → Prop) (H1 : Hp) : Prop where
  go : ∀ N' H (i : Nat) d, Same H1 H → KeepF N H1 N' H → ds[i]? = some d → J.go i H ∧ ∀ v H', J.yld i H v H' → Same H H' ∧ Dd K N' H' v d
  stop : ∀ N' H, Same H1 H → KeepF N H1 N' H → J.stop ds.length H
theorem JOk.weak {K : PySem.W.Frag} {J : It} {ds : List PyData} {N : Addr → Prop} {H : Hp} (j : JOk K J ds N H) : JOkW K J ds N H := by
  obtain ⟨Sr, h1, h2, h3, h4⟩ := j.h
  exact ⟨fun N' H' i d _ k e => h3 N' H' i d (h2 _ _ _ _ h1 k) e, fun N' H' _ k => h4 N' H' (h2 _ _ _ _ h1 k)⟩
def EI (Jo : It → List PyData → (Addr → Prop) → Hp → Prop) (S : Sx) (N : Addr → Prop) (H : Hp) (R : It → Hp → Prop) (E : XK) : Rs (List PyData) → Prop
  | .bad => False
  | .err c => ∀ H', Same H H' → E (.ref (S.cls c)) none H'
  | .ok ds => ∀ J H', Same H H' → Jo J ds N H' → R J H'
/-- for a for -/
def Di (S : Sx) (tg iter : Expr) (f : Ev → Rs (List PyData)) : Prop :=
  ∃ t : XK → TI, (∀ X E, Cs S X E → PI X tg iter (t E)) ∧ ∀ B H0 N σ H ρ R E, Rep S.K B H0 N σ H ρ → EI (JOk S.K) S N H R E (f ρ) → t E σ H R
/-- for a comprehension -/
def DiW (S : Sx) (tg iter : Expr) (f : Ev → Rs (List PyData)) : Prop :=
  ∃ t : XK → TI, (∀ X E, Cs S X E → PI X tg iter (t E)) ∧ ∀ B H0 N σ H ρ R E, Rep S.K B H0 N σ H ρ → EI (JOkW S.K) S N H R E (f ρ) → t E σ H R
theorem di_w {tg iter : Expr} {f : Ev → Rs (List PyData)} (h : Di S tg iter f) : DiW S tg iter f := by
  obtain ⟨t, h1, h2⟩ := h
  refine ⟨t, h1, fun B H0 N σ H ρ R E r k => h2 B H0 N σ H ρ R E r ?_⟩
  cases e : f ρ with
  | bad => rw [e] at k; exact k
  | err c => rw [e] at k; exact k
  | ok ds =>
    rw [e] at k
    exact fun J H' s j => k J H' s j.weak
theorem jok_l {N : Addr → Prop} {H : Hp} {a : Addr} {ds : List PyData} (h : Dd S.K N H (.ref a) (.list ds)) : JOk S.K (Itl S.K a) ds N H := by
  refine ⟨fun N H => Dd S.K N H (.ref a) (.list ds), h, fun N H N' H' h k => h.keep k, fun N H i d h e => ?_, fun N H h => ?_⟩
  · cases h with
    | lst e1 _ kk =>
      obtain ⟨v, hv, kv⟩ := kk.get e
      refine ⟨⟨_, v, SqL.of e1, hv⟩, fun v' H' y => ?_⟩
      obtain ⟨rfl, y⟩ := y
      have := y _ (SqL.of e1)
      rw [hv] at this
      cases this
      exact ⟨Same.refl _, kv⟩
  · cases h with
    | lst e1 _ kk => exact ⟨_, SqL.of e1, by rw [kk.len]; exact Nat.le_refl _⟩
theorem jok_s {N : Addr → Prop} {H : Hp} {a : Addr} {ds : List PyData} (h : Dd S.K N H (.ref a) (.dict [(.none, .list ds)])) : JOk S.K (Itl S.K a) ds N H := by
  refine ⟨fun N H => Dd S.K N H (.ref a) (.dict [(.none, .list ds)]), h, fun N H N' H' h k => h.keep k, fun N H i d h e => ?_, fun N H h => ?_⟩
  · obtain ⟨a', xs, e0, e1, kk⟩ := Dw.scr (.dd h)
    cases e0
    obtain ⟨v, hv, kv⟩ := kk.get e
    refine ⟨⟨_, v, e1, hv⟩, fun v' H' y => ?_⟩
    obtain ⟨rfl, y⟩ := y
    have := y _ e1
    rw [hv] at this
    cases this
    exact ⟨Same.refl _, kv⟩
  · obtain ⟨a', xs, e0, e1, kk⟩ := Dw.scr (.dd h)
    cases e0
    exact ⟨_, e1, by rw [kk.len]; exact Nat.le_refl _⟩
theorem jok_t {N : Addr → Prop} {H : Hp} {a : Addr} {ds : List PyData} (h : Dd S.K N H (.ref a) (.tuple ds)) : JOk S.K (Itt S.K a) ds N H := by
  refine ⟨fun N H => Dd S.K N H (.ref a) (.tuple ds), h, fun N H N' H' h k => h.keep k, fun N H i d h e => ?_, fun N H h => ?_⟩
  · cases h with
    | tup e1 kk =>
      obtain ⟨v, hv, kv⟩ := kk.get e
      refine ⟨⟨_, v, e1, hv⟩, fun v' H' y => ?_⟩
      obtain ⟨rfl, y⟩ := y
      have := y _ e1
      rw [hv] at this
      cases this
      exact ⟨Same.refl _, kv⟩
  · cases h with
    | tup e1 kk => exact ⟨_, e1, by rw [kk.len]; exact Nat.le_refl _⟩
def iItems (f : Ev → Rs PyData) : Ev → Rs (List PyData) := fun ρ => (f ρ).bind itemsD
theorem dd_ref_l {N : Addr → Prop} {H : Hp} {v : V} {ds : List PyData} (h : Dd S.K N H v (.list ds)) : ∃ a xs, v = .ref a ∧ H a = some (.lst xs) := by
  cases h with
  | lst e _ _ => exact ⟨_, _, rfl, e⟩
theorem di_seq {tg e : Expr} {f : Ev → Rs PyData} (h : De false S e f) : Di S tg e (iItems f) := by
  obtain ⟨t, h1, h2⟩ := h
  refine ⟨fun E => iSeq S.K (t E), fun X E c => by rw [← c.K]; exact pi_seq (h1 X E c), fun B H0 N σ H ρ R E rp k => h2 B H0 N σ H ρ _ E rp ?_⟩
  unfold iItems at k
  cases e1 : f ρ with
  | bad => rw [e1] at k; exact k
  | err c => rw [e1] at k; exact k
  | ok d =>
    rw [e1, Rs.bind_ok] at k
    intro v H1 s1 k1
    have k1 : Dd S.K N H1 v d := k1
    unfold itemsD at k
    split at k
    · obtain ⟨a, xs, rfl, e1⟩ := dd_ref_l k1
      exact ⟨a, rfl, .inl ⟨⟨xs, SqL.of e1⟩, k _ H1 s1 (jok_l k1)⟩⟩
    · obtain ⟨a, xs, rfl, e1, _⟩ := Dw.tup (.dd k1)
      exact ⟨a, rfl, .inr ⟨⟨xs, e1⟩, k _ H1 s1 (jok_t k1)⟩⟩
    · obtain ⟨a, xs, rfl, e1, _⟩ := Dw.scr (.dd k1)
      exact ⟨a, rfl, .inl ⟨⟨xs, e1⟩, k _ H1 s1 (jok_s k1)⟩⟩
    · exact k.elim
/-- a comprehension over what may be a list that is still changed -/
theorem jokw_own {N : Addr → Prop} {H : Hp} {a : Addr} {xs : List V} {ds : List PyData} (e1 : H a = some (.lst xs)) (kk : DdAll S.K N H xs ds) : JOkW S.K (Itl S.K a) ds N H := by
  refine ⟨fun N' H' i d s k e => ?_, fun N' H' s k => ⟨xs, SqL.of (s _ _ e1), by rw [kk.len]; exact Nat.le_refl _⟩⟩
  obtain ⟨v, hv, kv⟩ := kk.get e
  refine ⟨⟨_, v, SqL.of (s _ _ e1), hv⟩, fun v' H2 y => ?_⟩
  obtain ⟨rfl, y⟩ := y
  have := y _ (SqL.of (s _ _ e1))
  rw [hv] at this
  cases this
  exact ⟨Same.refl _, kv.keep k⟩
theorem diw_seq {tg e : Expr} {f : Ev → Rs PyData} (h : De true S e f) : DiW S tg e (iItems f) := by
  obtain ⟨t, h1, h2⟩ := h
  refine ⟨fun E => iSeq S.K (t E), fun X E c => by rw [← c.K]; exact pi_seq (h1 X E c), fun B H0 N σ H ρ R E rp k => h2 B H0 N σ H ρ _ E rp ?_⟩
  unfold iItems at k
  cases e1 : f ρ with
  | bad => rw [e1] at k; exact k
  | err c => rw [e1] at k; exact k
  | ok d =>
    rw [e1, Rs.bind_ok] at k
    intro v H1 s1 k1
    have k1 : Dw S.K N H1 v d := k1
    unfold itemsD at k
    split at k
    · obtain ⟨a, xs, rfl, e1, kk⟩ := k1.lst
      exact ⟨a, rfl, .inl ⟨⟨xs, SqL.of e1⟩, k _ H1 s1 (jokw_own e1 kk)⟩⟩
    · cases k1 with
      | dd k1 =>
        obtain ⟨a, xs, rfl, e1, _⟩ := Dw.tup (.dd k1)
        exact ⟨a, rfl, .inr ⟨⟨xs, e1⟩, k _ H1 s1 (jok_t k1).weak⟩⟩
    · cases k1 with
      | dd k1 =>
        obtain ⟨a, xs, rfl, e1, _⟩ := Dw.scr (.dd k1)
        exact ⟨a, rfl, .inl ⟨⟨xs, e1⟩, k _ H1 s1 (jok_s k1).weak⟩⟩
    · exact k.elim
/-- range -/
def iRg (f : Ev → Rs (Int × Int)) : Ev → Rs (List PyData) := fun ρ => (f ρ).bind fun z => .ok (rgD z.1 z.2)
theorem rgD_get {a b : Int} {i : Nat} {d : PyData} (h : (rgD a b)[i]? = some d) : i < (b - a).toNat ∧ d = .int (a + (i : Int)) := by
  unfold rgD at h
  rw [List.getElem?_map] at h
  cases e : (List.range (b - a).toNat)[i]? with
  | none => rw [e] at h; cases h
  | some j =>
    rw [e] at h
    obtain ⟨h1, h2⟩ := List.getElem?_eq_some_iff.mp e
    rw [List.length_range] at h1
    rw [List.getElem_range] at h2
    subst h2
    exact ⟨h1, (Option.some.inj h).symm⟩
theorem rgD_len (a b : Int) : (rgD a b).length = (b - a).toNat := by unfold rgD; rw [List.length_map, List.length_range]
theorem jok_r {N : Addr → Prop} {H : Hp} (a b : Int) : JOk S.K (Itr a (b - a).toNat) (rgD a b) N H := by
  refine ⟨fun _ _ => True, trivial, fun _ _ _ _ _ _ => trivial, fun N H i d _ e => ?_, fun N H _ => ?_⟩
  · obtain ⟨h1, rfl⟩ := rgD_get e
    refine ⟨h1, fun v H' y => ?_⟩
    obtain ⟨rfl, rfl⟩ := y
    exact ⟨Same.refl _, .int _⟩
  · rw [rgD_len]
    exact Nat.le_refl _
theorem di_rg1 {tg a : Expr} {p pos : Pos} {f : Ev → Rs PyData} (hm : S.mg "range" = none) (ha : De true S a f) (hg : Gn S "range" := by rfl) (he : ∀ env, starEach [a] env = [(false, eval a env)] := by intro _; rfl) : Di S tg (.Call (.Name "range" p) [a] [] pos) (iRg (rg1D f)) := by
  obtain ⟨t, h1, h2⟩ := ha
  refine ⟨fun E => iRng1 (tCons (t E) tNil), fun X E c => pi_range1 (gl_of c hg) (by rw [c.mg]; exact hm) (pa_cons (h1 X E c) pa_nil (by rw [he]; rfl)) (he _), fun B H0 N σ H ρ R E rp k => h2 B H0 N σ H ρ _ E rp ?_⟩
  unfold iRg rg1D at k
  cases e1 : f ρ with
  | bad => rw [e1] at k; exact k
  | err c => rw [e1] at k; exact k
  | ok d =>
    rw [e1, Rs.bind_ok] at k
    intro v H1 s1 k1
    cases d with
    | int i =>
      have k : EI (JOk S.K) S N H R E ((@ite _ (rgOk 0 i = true) (Classical.propDecidable _) (Rs.ok (0, i)) .bad).bind fun z => .ok (rgD z.1 z.2)) := k
      by_cases hr : rgOk 0 i = true
      · rw [if_pos hr] at k
        have ho := rgOk_of hr
        cases (DW.w k1).int
        refine ⟨i, rfl, ho.2.2.1, ho.2.2.2.1, ?_⟩
        have := k _ H1 s1 (jok_r (0, i).1 (0, i).2)
        rw [Int.sub_zero] at this
        exact this
      · rw [if_neg hr] at k
        exact k.elim
    | _ => exact k.elim
theorem di_rg2 {tg a b : Expr} {p pos : Pos} {f g : Ev → Rs PyData} (hm : S.mg "range" = none) (ha : De true S a f) (hb : De true S b g) (hg : Gn S "range" := by rfl) (he : ∀ env, starEach [a, b] env = [(false, eval a env), (false, eval b env)] := by intro _; rfl) (he2 : ∀ env, starEach [b] env = [(false, eval b env)] := by intro _; rfl) : Di S tg (.Call (.Name "range" p) [a, b] [] pos) (iRg (rg2D f g)) := by
  obtain ⟨t, h1, h2⟩ := ha
  obtain ⟨u, h3, h4⟩ := hb
  refine ⟨fun E => iRng2 (tCons (t E) (tCons (u E) tNil)), fun X E c => pi_range2 (gl_of c hg) (by rw [c.mg]; exact hm) (pa_cons (h1 X E c) (pa_cons (h3 X E c) pa_nil (by rw [he2]; rfl)) (by rw [he, he2])) (he _) (he2 _), fun B H0 N σ H ρ R E rp k => h2 B H0 N σ H ρ _ E rp ?_⟩
  unfold iRg rg2D at k
  cases e1 : f ρ with
  | bad => rw [e1] at k; exact k
  | err c => rw [e1] at k; exact k
  | ok d =>
    rw [e1, Rs.bind_ok] at k
    intro v H1 s1 k1
    refine h4 B H0 N σ H1 ρ _ E (rp.same s1) ?_
    cases e2 : g ρ with
    | bad => rw [e2] at k; exact k
    | err c => rw [e2] at k; exact fun H' s' => k H' (s1.trans s')
    | ok e =>
      rw [e2, Rs.bind_ok] at k
      intro y H2 s2 k2
      split at k
      · rename_i i j
        by_cases hr : rgOk i j = true
        · rw [if_pos hr] at k
          have ho := rgOk_of hr
          cases (DW.w k1).int
          cases (DW.w k2).int
          exact ⟨i, j, rfl, ⟨ho.1, ho.2.1, ho.2.2.1, ho.2.2.2.1⟩, k _ H2 (s1.trans s2) (jok_r i j)⟩
        · rw [if_neg hr] at k
          exact k.elim
      · exact k.elim
/-- enumerate -/
def enumG : Nat → List PyData → List PyData
  | _, [] => []
  | i, d :: ds => .tuple [.int (i : Int), d] :: enumG (i + 1) ds
theorem enumG_get : ∀ {ds : List PyData} {k i : Nat} {d : PyData}, (enumG k ds)[i]? = some d → ∃ e, ds[i]? = some e ∧ d = .tuple [.int ((k + i : Nat) : Int), e]
  | [], k, i, d, h => by simp [enumG] at h
  | e :: ds, k, 0, d, h => by
    simp only [enumG, List.getElem?_cons_zero, Option.some.injEq] at h
    exact ⟨e, rfl, h.symm⟩
  | e :: ds, k, i + 1, d, h => by
    simp only [enumG, List.getElem?_cons_succ] at h
    obtain ⟨z, h1, h2⟩ := enumG_get h
    refine ⟨z, h1, ?_⟩
    rw [h2, show k + 1 + i = k + (i + 1) by omega]
theorem enumG_len : ∀ (ds : List PyData) (k : Nat), (enumG k ds).length = ds.length
  | [], _ => rfl
  | _ :: ds, k => by simp [enumG, enumG_len ds]
def iEnumD (f : Ev → Rs PyData) : Ev → Rs (List PyData) := fun ρ => (f ρ).bind fun d => (itemsD d).bind fun ds => .ok (enumG 0 ds)
theorem dd_pair {N : Addr → Prop} {H : Hp} {T : Addr} {x y : V} {d e : PyData} (h : H T = none) (hx : Dd S.K N H x d) (hy : Dd S.K N H y e) : Dd S.K N (upd H T (.tup [x, y])) (.ref T) (.tuple [d, e]) := dd_tup h (.cons hx (.cons hy .nil))
theorem jok_el {N : Addr → Prop} {H : Hp} {a : Addr} {ds : List PyData} (h : Dd S.K N H (.ref a) (.list ds)) : JOk S.K (Ite S.K a) (enumG 0 ds) N H := by
  refine ⟨fun N H => Dd S.K N H (.ref a) (.list ds), h, fun N H N' H' h k => h.keep k, fun N H i d h e => ?_, fun N H h => ?_⟩
  · obtain ⟨e0, he, rfl⟩ := enumG_get e
    cases h with
    | lst e1 _ kk =>
      obtain ⟨v, hv, kv⟩ := kk.get he
      refine ⟨⟨_, v, SqL.of e1, hv⟩, fun v' H' y => ?_⟩
      obtain ⟨T, x, rfl, hT, rfl, y⟩ := y
      have := y _ (SqL.of e1)
      rw [hv] at this
      cases this
      exact ⟨same_upd hT, dd_pair hT (by rw [Nat.zero_add]; exact .int _) kv⟩
  · cases h with
    | lst e1 _ kk => exact ⟨_, SqL.of e1, by rw [kk.len, enumG_len]; exact Nat.le_refl _⟩
theorem jok_es {N : Addr → Prop} {H : Hp} {a : Addr} {ds : List PyData} (h : Dd S.K N H (.ref a) (.dict [(.none, .list ds)])) : JOk S.K (Ite S.K a) (enumG 0 ds) N H := by
  refine ⟨fun N H => Dd S.K N H (.ref a) (.dict [(.none, .list ds)]), h, fun N H N' H' h k => h.keep k, fun N H i d h e => ?_, fun N H h => ?_⟩
  · obtain ⟨e0, he, rfl⟩ := enumG_get e
    obtain ⟨a', xs, q, e1, kk⟩ := Dw.scr (.dd h)
    cases q
    obtain ⟨v, hv, kv⟩ := kk.get he
    refine ⟨⟨_, v, e1, hv⟩, fun v' H' y => ?_⟩
    obtain ⟨T, x, rfl, hT, rfl, y⟩ := y
    have := y _ e1
    rw [hv] at this
    cases this
    exact ⟨same_upd hT, dd_pair hT (by rw [Nat.zero_add]; exact .int _) kv⟩
  · obtain ⟨a', xs, q, e1, kk⟩ := Dw.scr (.dd h)
    cases q
    exact ⟨_, e1, by rw [kk.len, enumG_len]; exact Nat.le_refl _⟩
theorem jok_et {N : Addr → Prop} {H : Hp} {a : Addr} {ds : List PyData} (h : Dd S.K N H (.ref a) (.tuple ds)) : JOk S.K (ItE S.K a) (enumG 0 ds) N H := by
  refine ⟨fun N H => Dd S.K N H (.ref a) (.tuple ds), h, fun N H N' H' h k => h.keep k, fun N H i d h e => ?_, fun N H h => ?_⟩
  · obtain ⟨e0, he, rfl⟩ := enumG_get e
    cases h with
    | tup e1 kk =>
      obtain ⟨v, hv, kv⟩ := kk.get he
      refine ⟨⟨_, v, e1, hv⟩, fun v' H' y => ?_⟩
      obtain ⟨T, x, rfl, hT, rfl, y⟩ := y
      have := y _ e1
      rw [hv] at this
      cases this
      exact ⟨same_upd hT, dd_pair hT (by rw [Nat.zero_add]; exact .int _) kv⟩
  · cases h with
    | tup e1 kk => exact ⟨_, e1, by rw [kk.len, enumG_len]; exact Nat.le_refl _⟩
theorem di_enum {elts : List Expr} {kk : Nat} {tpos : Pos} {e : Expr} {p pos : Pos} {f : Ev → Rs PyData} (hm : S.mg "enumerate" = none) (h : De false S e f) (hg : Gn S "enumerate" := by rfl) (he : ∀ env, starEach [e] env = [(false, eval e env)] := by intro _; rfl) : Di S (.Tuple elts kk tpos) (.Call (.Name "enumerate" p) [e] [] pos) (iEnumD f) := by
  obtain ⟨t, h1, h2⟩ := h
  refine ⟨fun E => iEnumA S.K (tCons (t E) tNil), fun X E c => by rw [← c.K]; exact pi_enumA (gl_of c hg) (by rw [c.mg]; exact hm) (pa_cons (h1 X E c) pa_nil (by rw [he]; rfl)) (he _), fun B H0 N σ H ρ R E rp k => h2 B H0 N σ H ρ _ E rp ?_⟩
  unfold iEnumD at k
  cases e1 : f ρ with
  | bad => rw [e1] at k; exact k
  | err c => rw [e1] at k; exact k
  | ok d =>
    rw [e1, Rs.bind_ok] at k
    intro v H1 s1 k1
    have k1 : Dd S.K N H1 v d := k1
    unfold itemsD at k
    split at k
    · obtain ⟨a, xs, rfl, e1⟩ := dd_ref_l k1
      exact ⟨a, xs, rfl, .inl ⟨SqL.of e1, k _ H1 s1 (jok_el k1)⟩⟩
    · obtain ⟨a, xs, rfl, e1, _⟩ := Dw.tup (.dd k1)
      exact ⟨a, xs, rfl, .inr ⟨e1, k _ H1 s1 (jok_et k1)⟩⟩
    · obtain ⟨a, xs, rfl, e1, _⟩ := Dw.scr (.dd k1)
      exact ⟨a, xs, rfl, .inl ⟨e1, k _ H1 s1 (jok_es k1)⟩⟩
    · exact k.elim
/-- zip -/
def zipD : List PyData → List PyData → List PyData
  | a :: as, b :: bs => .tuple [a, b] :: zipD as bs
  | _, _ => []
theorem zipD_get : ∀ {as bs : List PyData} {i : Nat} {d : PyData}, (zipD as bs)[i]? = some d → ∃ a b, as[i]? = some a ∧ bs[i]? = some b ∧ d = .tuple [a, b]
  | [], _, i, d, h => by simp [zipD] at h
  | _ :: _, [], i, d, h => by simp [zipD] at h
  | a :: as, b :: bs, 0, d, h => by
    simp only [zipD, List.getElem?_cons_zero, Option.some.injEq] at h
    exact ⟨a, b, rfl, rfl, h.symm⟩
  | a :: as, b :: bs, i + 1, d, h => by
    simp only [zipD, List.getElem?_cons_succ] at h
    exact zipD_get (as := as) (bs := bs) (i := i) h
theorem zipD_len : ∀ (as bs : List PyData), (zipD as bs).length = min as.length bs.length
  | [], _ => by simp [zipD]
  | _ :: _, [] => by simp [zipD]
  | a :: as, b :: bs => by simp [zipD, zipD_len as bs]
def iZipD (fs : Ev → Rs (List PyData)) : Ev → Rs (List PyData) := fun ρ => (fs ρ).bind fun
  | [.tuple as, .tuple bs] => .ok (zipD as bs)
  | [.list as, .list bs] => .ok (zipD as bs)
  | _ => .bad
theorem jok_ztt {N : Addr → Prop} {H : Hp} {a b : Addr} {as bs : List PyData} (h : Dd S.K N H (.ref a) (.tuple as)) (h' : Dd S.K N H (.ref b) (.tuple bs)) : JOk S.K (RZ.ItzT S.K a b) (zipD as bs) N H := by
  refine ⟨fun N H => Dd S.K N H (.ref a) (.tuple as) ∧ Dd S.K N H (.ref b) (.tuple bs), ⟨h, h'⟩, fun N H N' H' h k => ⟨h.1.keep k, h.2.keep k⟩, fun N H i d h e => ?_, fun N H h => ?_⟩
  · obtain ⟨x, y, hx, hy, rfl⟩ := zipD_get e
    obtain ⟨h, h'⟩ := h
    cases h with
    | tup e1 k1 =>
      cases h' with
      | tup e2 k2 =>
        obtain ⟨v, hv, kv⟩ := k1.get hx
        obtain ⟨u, hu, ku⟩ := k2.get hy
        refine ⟨⟨_, _, v, u, e1, e2, hv, hu⟩, fun v' H' z => ?_⟩
        obtain ⟨T, x', y', rfl, hT, rfl, z1, z2⟩ := z
        have q1 := z1 _ e1
        have q2 := z2 _ e2
        rw [hv] at q1
        rw [hu] at q2
        cases q1
        cases q2
        exact ⟨same_upd hT, dd_pair hT kv ku⟩
  · obtain ⟨h, h'⟩ := h
    cases h with
    | tup e1 k1 =>
      cases h' with
      | tup e2 k2 => exact ⟨_, _, e1, e2, by rw [k1.len, k2.len, zipD_len]; omega⟩
theorem jok_zll {N : Addr → Prop} {H : Hp} {a b : Addr} {as bs : List PyData} (h : Dd S.K N H (.ref a) (.list as)) (h' : Dd S.K N H (.ref b) (.list bs)) : JOk S.K (Itz S.K a b) (zipD as bs) N H := by
  refine ⟨fun N H => Dd S.K N H (.ref a) (.list as) ∧ Dd S.K N H (.ref b) (.list bs), ⟨h, h'⟩, fun N H N' H' h k => ⟨h.1.keep k, h.2.keep k⟩, fun N H i d h e => ?_, fun N H h => ?_⟩
  · obtain ⟨x, y, hx, hy, rfl⟩ := zipD_get e
    obtain ⟨h, h'⟩ := h
    cases h with
    | lst e1 _ k1 =>
      cases h' with
      | lst e2 _ k2 =>
        obtain ⟨v, hv, kv⟩ := k1.get hx
        obtain ⟨u, hu, ku⟩ := k2.get hy
        refine ⟨⟨_, _, v, u, SqL.of e1, SqL.of e2, hv, hu⟩, fun v' H' z => ?_⟩
        obtain ⟨T, x', y', rfl, hT, rfl, z1, z2⟩ := z
        have q1 := z1 _ (SqL.of e1)
        have q2 := z2 _ (SqL.of e2)
        rw [hv] at q1
        rw [hu] at q2
        cases q1
        cases q2
        exact ⟨same_upd hT, dd_pair hT kv ku⟩
  · obtain ⟨h, h'⟩ := h
    cases h with
    | lst e1 _ k1 =>
      cases h' with
      | lst e2 _ k2 => exact ⟨_, _, SqL.of e1, SqL.of e2, by rw [k1.len, k2.len, zipD_len]; omega⟩
theorem di_zip {elts : List Expr} {kk : Nat} {tpos : Pos} {e e' : Expr} {p pos : Pos} {fs : Ev → Rs (List PyData)} (hm : S.mg "zip" = none) (h : Da false S [e, e'] fs) (hg : Gn S "zip" := by rfl) (he : ∀ env, starEach [e, e'] env = (false, eval e env) :: starEach [e'] env := by intro _; rfl) (hpl : ∀ env, (backTo pos (starEach [e'] env)).any (·.1) = false := by intro _; rfl) : Di S (.Tuple elts kk tpos) (.Call (.Name "zip" p) [e, e'] [] pos) (iZipD fs) := by
  obtain ⟨t, h1, h2, _⟩ := h
  refine ⟨fun E => RZ.iZipA S.K (t E), fun X E c => by rw [← c.K]; exact RZ.pi_zipA (gl_of c hg) (by rw [c.mg]; exact hm) (h1 X E c) (he _) (hpl _), fun B H0 N σ H ρ R E rp k => h2 B H0 N σ H ρ _ E rp ?_⟩
  unfold iZipD at k
  cases e1 : fs ρ with
  | bad => rw [e1] at k; exact k
  | err c => rw [e1] at k; exact k
  | ok d =>
    rw [e1, Rs.bind_ok] at k
    intro vs H1 s1 k1
    split at k
    · obtain ⟨v, u, rfl, hx, hy⟩ := pd2 k1
      obtain ⟨a, xs, rfl, e1, _⟩ := Dw.tup (.dd hx)
      obtain ⟨b, ys, rfl, e2, _⟩ := Dw.tup (.dd hy)
      exact ⟨a, b, xs, ys, rfl, .inr ⟨e1, e2, k _ H1 s1 (jok_ztt hx hy)⟩⟩
    · obtain ⟨v, u, rfl, hx, hy⟩ := pd2 k1
      obtain ⟨a, xs, rfl, e1⟩ := dd_ref_l hx
      obtain ⟨b, ys, rfl, e2⟩ := dd_ref_l hy
      exact ⟨a, b, xs, ys, rfl, .inl ⟨SqL.of e1, SqL.of e2, k _ H1 s1 (jok_zll hx hy)⟩⟩
    · exact k.elim
end
/-! ### slots forgotten -/
theorem wipe_get (σ : L2.St) : ∀ (vs : List Nat) (j : Nat), (wipe σ vs)[j]? = if j ∈ vs then (if j < σ.length then some none else none) else σ[j]?
  | [], j => by simp [wipe]
  | v :: vs, j => by
    have ih := wipe_get σ vs j
    unfold wipe
    by_cases hj : v = j
    · subst hj
      rw [if_pos List.mem_cons_self]
      by_cases hl : v < σ.length
      · rw [if_pos hl, List.getElem?_set_self (by rw [wipe_length]; exact hl)]
      · rw [if_neg hl, List.getElem?_eq_none (by rw [List.length_set, wipe_length]; omega)]
    · rw [List.getElem?_set_ne hj, ih]
      by_cases hm : j ∈ vs
      · rw [if_pos hm, if_pos (List.mem_cons_of_mem _ hm)]
      · rw [if_neg hm, if_neg (by simp only [List.mem_cons, not_or]; exact ⟨fun z => hj z.symm, hm⟩)]
theorem wipe_set {σ : L2.St} {vs : List Nat} {i : Nat} {x : Option V} (h : i ∈ vs) : wipe (σ.set i x) vs = wipe σ vs := by
  refine List.ext_getElem? fun j => ?_
  rw [wipe_get, wipe_get, List.length_set]
  by_cases hj : j ∈ vs
  · rw [if_pos hj, if_pos hj]
  · rw [if_neg hj, if_neg hj, List.getElem?_set_ne (fun z => hj (by rw [← z]; exact h))]
def wipeE (ρ : Ev) : List Nat → Ev
  | [] => ρ
  | v :: vs => (wipeE ρ vs).set v none
section
variable {K : PySem.W.Frag} {B : Addr → Prop} {H0 : Hp} {N : Addr → Prop} {σ : L2.St} {H : Hp} {ρ : Ev}
theorem set_cases {α : Type} {l : List α} {i j : Nat} {x y : α} (h : (l.set i x)[j]? = some y) : (j = i ∧ y = x ∧ i < l.length) ∨ (j ≠ i ∧ l[j]? = some y) := by
  by_cases e : i = j
  · subst e
    by_cases hl : i < l.length
    · rw [List.getElem?_set_self hl] at h
      exact .inl ⟨rfl, (Option.some.inj h).symm, hl⟩
    · rw [List.getElem?_eq_none (by rw [List.length_set]; omega)] at h
      cases h
  · rw [List.getElem?_set_ne e] at h
    exact .inr ⟨fun z => e z.symm, h⟩
theorem Rep.unset (r : Rep K B H0 N σ H ρ) (i : Nat) : Rep K B H0 N (σ.set i none) H (ρ.set i none) where
  len := by rw [List.length_set, List.length_set]; exact r.len
  base := r.base
  told := r.told
  hB := r.hB
  frz := fun j d h => by
    rcases set_cases h with ⟨_, z, _⟩ | ⟨n, h⟩
    · cases z
    · obtain ⟨v, e, k⟩ := r.frz j d h
      exact ⟨v, by rw [List.getElem?_set_ne (Ne.symm n)]; exact e, k⟩
  own := fun j d h => by
    rcases set_cases h with ⟨_, z, _⟩ | ⟨n, h⟩
    · cases z
    · obtain ⟨a, o, e, k⟩ := r.own j d h
      exact ⟨a, o, by rw [List.getElem?_set_ne (Ne.symm n)]; exact e, k⟩
  inj := fun j k d e a h1 h2 h3 h4 => by
    rcases set_cases h1 with ⟨_, z, _⟩ | ⟨n1, h1⟩
    · cases z
    · rcases set_cases h2 with ⟨_, z, _⟩ | ⟨n2, h2⟩
      · cases z
      · rw [List.getElem?_set_ne (Ne.symm n1)] at h3
        rw [List.getElem?_set_ne (Ne.symm n2)] at h4
        exact r.inj j k d e a h1 h2 h3 h4
theorem Rep.wipe (r : Rep K B H0 N σ H ρ) : ∀ vs : List Nat, Rep K B H0 N (L2.wipe σ vs) H (wipeE ρ vs)
  | [] => r
  | v :: vs => (Rep.wipe r vs).unset v
theorem Rep.set (r : Rep K B H0 N σ H ρ) (i : Nat) {v : V} {d : PyData} (hv : Dd K N H v d) : Rep K B H0 N (σ.set i (some v)) H (ρ.set i (some (false, d))) where
  len := by rw [List.length_set, List.length_set]; exact r.len
  base := r.base
  told := r.told
  hB := r.hB
  frz := fun j d' h => by
    rcases set_cases h with ⟨rfl, z, hl⟩ | ⟨n, h⟩
    · cases z
      exact ⟨v, List.getElem?_set_self (by rw [r.len]; exact hl), hv⟩
    · obtain ⟨v, e, k⟩ := r.frz j d' h
      exact ⟨v, by rw [List.getElem?_set_ne (Ne.symm n)]; exact e, k⟩
  own := fun j d' h => by
    rcases set_cases h with ⟨_, z, _⟩ | ⟨n, h⟩
    · cases z
    · obtain ⟨a, o, e, k⟩ := r.own j d' h
      exact ⟨a, o, by rw [List.getElem?_set_ne (Ne.symm n)]; exact e, k⟩
  inj := fun j k d e a h1 h2 h3 h4 => by
    rcases set_cases h1 with ⟨_, z, _⟩ | ⟨n1, h1⟩
    · cases z
    · rcases set_cases h2 with ⟨_, z, _⟩ | ⟨n2, h2⟩
      · cases z
      · rw [List.getElem?_set_ne (Ne.symm n1)] at h3
        rw [List.getElem?_set_ne (Ne.symm n2)] at h4
        exact r.inj j k d e a h1 h2 h3 h4
/-- all but D is as it was -/
def SameX (D : Addr) (H H' : Hp) : Prop := ∀ a o, a ≠ D → H a = some o → H' a = some o
theorem SameX.of {D : Addr} {H H' : Hp} (s : Same H H') : SameX D H H' := fun a o _ e => s a o e
theorem SameX.trans {D : Addr} {H H1 H2 : Hp} (a : SameX D H H1) (b : SameX D H1 H2) : SameX D H H2 := fun c o n e => b c o n (a c o n e)
theorem SameX.upd {D : Addr} {H H1 : Hp} {o : HO} (a : SameX D H H1) : SameX D H (L2.upd H1 D o) := fun c u n e => by
  rw [upd_ne n]
  exact a c u n e
theorem keep_x {D : Addr} {H H' : Hp} {xs : List V} (s : SameX D H H') (nD : N D) (e : H D = some (.lst xs)) : KeepF N H N H' := by
  refine ⟨fun a o h n => ⟨s a o (fun z => n (by rw [z]; exact nD)) h, n⟩, fun a ys h => ?_⟩
  rcases h with h | ⟨o, h⟩
  · exact .inl (s _ _ (ne_of h e (by intro z; cases z)) h)
  · exact .inr ⟨o, s _ _ (ne_of h e (by intro z; cases z)) h⟩
theorem keep_o {K : PySem.W.Frag} {D : Addr} {H H' : Hp} {o : HO} {d : PyData} (s : SameX D H H') (nD : N D) (e : H D = some o) (k : OwnD K N H o d) : KeepF N H N H' := by
  cases k with
  | lst k => exact keep_x s nD e
  | dct kvs =>
    refine ⟨fun a o h n => ⟨s a o (fun z => n (by rw [z]; exact nD)) h, n⟩, fun a ys h => ?_⟩
    rcases h with h | ⟨o, h⟩
    · exact .inl (s _ _ (ne_of h e (by intro z; cases z)) h)
    · exact .inr ⟨o, s _ _ (ne_of h e (by intro z; cases z)) h⟩
theorem Rep.moveX {D : Addr} {H' : Hp} {xs ys : List V} (r : Rep K B H0 N σ H ρ) (s : SameX D H H') (nD : N D) (e : H D = some (.lst xs)) (e' : H' D = some (.lst ys)) (h0 : H0 D = none) (bD : B D) : Rep K B H0 N σ H' ρ where
  len := r.len
  base := fun a o h => s a o (ne_of_none h h0) (r.base a o h)
  told := fun a n h => by
    by_cases z : a = D
    · rw [z, e'] at h
      cases h
    · cases q : H a with
      | none => exact r.told a n q
      | some o =>
        rw [s a o z q] at h
        cases h
  hB := r.hB
  frz := fun i d h => let ⟨v, e1, k⟩ := r.frz i d h; ⟨v, e1, k.keep (keep_x s nD e)⟩
  own := fun i d h => by
    obtain ⟨a, o, e1, e3, e4, e5⟩ := r.own i d h
    exact ⟨a, o, e1, s _ _ (fun z => e5.2.2 (by rw [z]; exact bD)) e3, e4.keep (keep_x s nD e), e5⟩
  inj := r.inj
/-- a new list of one's own -/
theorem Rep.enter {D : Addr} {H' : Hp} (r : Rep K B H0 N σ H ρ) (s : Same H H') (h : H D = none) (e : H' D ≠ none) : Rep K B H0 (fun a => N a ∨ a = D) σ H' ρ := by
  have kf : KeepF N H (fun a => N a ∨ a = D) H' := ⟨fun a o q n => ⟨s a o q, fun z => z.elim n (ne_of_none q h)⟩, fun a xs q => same_rd s q⟩
  exact ⟨r.len, r.base.trans s, fun a n q => n.elim (fun n => (r.told.same s) a n q) fun z => e (by rw [← z]; exact q), fun a b => .inl (r.hB a b), fun i d q => let ⟨v, e1, k⟩ := r.frz i d q; ⟨v, e1, k.keep kf⟩,
    fun i d q => let ⟨a, o, e1, e3, e4, e5, e6, e7⟩ := r.own i d q; ⟨a, o, e1, s _ _ e3, e4.keep kf, e5, .inl e6, e7⟩, r.inj⟩
theorem Rep.enterB {D : Addr} {H' : Hp} (r : Rep K B H0 N σ H ρ) (s : Same H H') (h : H D = none) (e : H' D ≠ none) : Rep K (fun a => B a ∨ a = D) H0 (fun a => N a ∨ a = D) σ H' ρ := by
  have r1 := r.enter s h e
  refine ⟨r1.len, r1.base, r1.told, fun a b => b.imp (r.hB a) id, r1.frz, fun i d q => ?_, r1.inj⟩
  obtain ⟨a, o, e1, e3, e4, e5, e6, e7⟩ := r.own i d q
  obtain ⟨a', o', f1, f3, f4, f5, f6, f7⟩ := r1.own i d q
  rw [e1] at f1
  cases f1
  exact ⟨a, o', e1, f3, f4, f5, f6, fun z => z.elim e7 (ne_of_none e3 h)⟩
theorem Rep.noown {D : Addr} (r : Rep K B H0 N σ H ρ) (h : H D = none) : ∀ (i : Nat) d, ρ[i]? = some (some (true, d)) → σ[i]? ≠ some (some (.ref D)) := fun i d q z => by
  obtain ⟨a, o, e1, e3, _⟩ := r.own i d q
  rw [e1] at z
  cases z
  rw [h] at e3
  cases e3
end
/-! ### targets -/
def EG (K : PySem.W.Frag) (B : Addr → Prop) (H0 : Hp) (N : Addr → Prop) (H : Hp) (vs : List Nat) (σ : L2.St) (Q : L2.St → Hp → Prop) : Rs Ev → Prop
  | .ok ρ' => ∀ σ', Rep K B H0 N σ' H ρ' → wipe σ' vs = wipe σ vs → Q σ' H
  | _ => False
section
variable {S : Sx} {w : Bool} {vs : List Nat}
def Dx (vs : List Nat) (S : Sx) (tg : Expr) (g : PyData → Ev → Rs Ev) : Prop :=
  ∃ t : TG, (∀ X E, Cs S X E → PG X tg t) ∧ ∀ B H0 N σ H ρ v d Q, Rep S.K B H0 N σ H ρ → Dd S.K N H v d → EG S.K B H0 N H vs σ Q (g d ρ) → t v σ H Q
def Dxs (vs : List Nat) (S : Sx) (tg : List Expr) (g : List PyData → Ev → Rs Ev) : Prop :=
  ∃ t : TGs, (∀ X E, Cs S X E → PGs X tg t) ∧ ∀ B H0 N σ H ρ us ds Q, Rep S.K B H0 N σ H ρ → DdAll S.K N H us ds → EG S.K B H0 N H vs σ Q (g ds ρ) → t us σ H Q
def gN (i : Nat) : PyData → Ev → Rs Ev := fun d ρ => .ok (ρ.set i (some (false, d)))
def gsN : List PyData → Ev → Rs Ev
  | [], ρ => .ok ρ
  | _, _ => .bad
def gsC (g : PyData → Ev → Rs Ev) (gs : List PyData → Ev → Rs Ev) : List PyData → Ev → Rs Ev
  | d :: ds, ρ => (g d ρ).bind (gs ds)
  | [], _ => .bad
def gT (n : Nat) (gs : List PyData → Ev → Rs Ev) : PyData → Ev → Rs Ev
  | .tuple ds, ρ => if ds.length = n then gs ds ρ else .bad
  | _, _ => .bad
theorem dx_name (i : Nat) {x : Str} {pos : Pos} (nd : S.N.Nodup) (hi : S.N[i]? = some x := by rfl) (hx : S.sc.names.lookup x = some .local ∨ (S.sc.names.lookup x = some .cell ∧ S.fc x = true) := by first | exact Or.inl rfl | exact Or.inr ⟨rfl, rfl⟩) (hv : i ∈ vs := by decide) : Dx vs S (.Name x pos) (gN i) := by
  refine ⟨gName i, fun X E c => pg_name (by rw [c.N]; exact nd) (n_of c hi) (by show L2.Loc _ _; unfold L2.Loc; rw [c.sc]; exact hx.imp id And.left) ?_, fun B H0 N σ H ρ v d Q r hd k => k _ (r.set i hd) (wipe_set hv)⟩
  rcases hx with hx | hx
  · exact .inr (by rw [c.sc]; exact hx)
  · exact .inl (c.fn x hx.2)
theorem dxs_nil : Dxs vs S [] gsN := ⟨gNil, fun X E c => pgs_nil, fun B H0 N σ H ρ us ds Q r hd k => by
  cases hd with
  | nil => exact ⟨rfl, k σ r rfl⟩
  | cons a b => exact k.elim⟩
theorem dxs_cons {e : Expr} {es : List Expr} {g : PyData → Ev → Rs Ev} {gs : List PyData → Ev → Rs Ev} (h : Dx vs S e g) (h' : Dxs vs S es gs) (hs : ∀ env, (assignEach (e :: es) env).map (·.2) = assign e env :: (assignEach es env).map (·.2) := by intro _; rfl) : Dxs vs S (e :: es) (gsC g gs) := by
  obtain ⟨t, h1, h2⟩ := h
  obtain ⟨u, h3, h4⟩ := h'
  refine ⟨gCons t u, fun X E c => pgs_cons (h1 X E c) (h3 X E c) (hs _), fun B H0 N σ H ρ us ds Q r hd k => ?_⟩
  cases hd with
  | nil => exact k.elim
  | @cons v vs' d ds a b =>
    refine ⟨v, vs', rfl, h2 B H0 N σ H ρ v d _ r a ?_⟩
    have k : EG S.K B H0 N H vs σ Q ((g d ρ).bind (gs ds)) := k
    cases e1 : g d ρ with
    | bad => rw [e1] at k; exact k
    | err c => rw [e1] at k; exact k
    | ok ρ1 =>
      rw [e1, Rs.bind_ok] at k
      intro σ1 r1 w1
      refine h4 B H0 N σ1 H ρ1 vs' ds _ r1 b ?_
      cases e2 : gs ds ρ1 with
      | bad => rw [e2] at k; exact k
      | err c => rw [e2] at k; exact k
      | ok ρ2 =>
        rw [e2] at k
        exact fun σ2 r2 w2 => k σ2 r2 (w2.trans w1)
theorem dx_tup {es : List Expr} {kk : Nat} {pos : Pos} {n : Nat} {gs : List PyData → Ev → Rs Ev} (h : Dxs vs S es gs) (hn : ∀ env, (assignEach es env).length = n := by intro _; rfl) (hst : ∀ env, (assignEach es env).findIdx? (·.1) = none := by intro _; rfl) : Dx vs S (.Tuple es kk pos) (gT n gs) := by
  obtain ⟨t, h1, h2⟩ := h
  refine ⟨gTup S.K n t, fun X E c => by rw [← c.K]; exact pg_tup c.calm (h1 X E c) (hn _) (hst _), fun B H0 N σ H ρ v d Q r hd k => ?_⟩
  cases d with
  | tuple ds =>
    have k : EG S.K B H0 N H vs σ Q (if ds.length = n then gs ds ρ else .bad) := k
    by_cases hl : ds.length = n
    · rw [if_pos hl] at k
      obtain ⟨a, xs, rfl, e1, kk⟩ := Dw.tup (.dd hd)
      exact ⟨a, xs, rfl, e1, by rw [kk.len]; exact hl, h2 B H0 N σ H ρ xs ds Q r kk k⟩
    · rw [if_neg hl] at k
      exact k.elim
  | _ => exact k.elim
/-! ### comprehensions -/
def lcAll (bd : PyData → Rs (List PyData)) : List PyData → Rs (List PyData)
  | [] => .ok []
  | d :: ds => (bd d).bind fun r => (lcAll bd ds).bind fun r' => .ok (r ++ r')
structure LcSt (K : PySem.W.Frag) (N : Addr → Prop) (D : Addr) (Hs H : Hp) (acc : List V) (accD : List PyData) : Prop where
  s : SameX D Hs H
  d : H D = some (.lst acc)
  a : DdAll K N H acc accD
theorem lc_loop {K : PySem.W.Frag} {N : Addr → Prop} {D : Addr} {J : It} {ds r : List PyData} {Hs : Hp} {acc0 : List V} {acc0D : List PyData} {bodyP : (Hp → Prop) → V → Hp → Prop} {bd : PyData → Rs (List PyData)} {Qd : Hp → Prop}
    (st0 : LcSt K N D Hs Hs acc0 acc0D) (hr : lcAll bd ds = .ok r) (hlen : (acc0D ++ r).length ≤ lim)
    (hj : ∀ H acc accD, LcSt K N D Hs H acc accD → (∀ (i : Nat) d, ds[i]? = some d → J.go i H ∧ ∀ v H', J.yld i H v H' → Same H H' ∧ Dd K N H' v d) ∧ J.stop ds.length H)
    (hb : ∀ d v H acc accD q, LcSt K N D Hs H acc accD → Dd K N H v d → bd d = .ok q → (accD ++ q).length ≤ lim → ∀ Nx : Hp → Prop, (∀ H' acc', LcSt K N D Hs H' acc' (accD ++ q) → Nx H') → bodyP Nx v H)
    (hd : ∀ H acc, LcSt K N D Hs H acc (acc0D ++ r) → Qd H) :
    ∃ W : Nat → Nat → Hp → Prop, (∃ m, W 0 m Hs) ∧ ∀ i m H, W i m H → (J.stop i H ∧ Qd H) ∨ (J.go i H ∧ ∃ Nx : Hp → Prop, (∀ H', Nx H' → ∃ m', m' < m ∧ W (i + 1) m' H') ∧ ∀ x H', J.yld i H x H' → bodyP Nx x H') := by
  refine ⟨fun i m H => i + m = ds.length ∧ ∃ acc accD r', LcSt K N D Hs H acc accD ∧ lcAll bd (ds.drop i) = .ok r' ∧ accD ++ r' = acc0D ++ r, ⟨ds.length, Nat.zero_add _, acc0, acc0D, r, st0, hr, rfl⟩, fun i m H hW => ?_⟩
  obtain ⟨hm, acc, accD, r', st, hr', he⟩ := hW
  obtain ⟨hgo, hstop⟩ := hj H acc accD st
  match m, hm with
  | 0, hm =>
    have hi : i = ds.length := by omega
    subst hi
    rw [List.drop_length] at hr'
    cases hr'
    rw [List.append_nil] at he
    subst he
    exact .inl ⟨hstop, hd H acc st⟩
  | m + 1, hm =>
    have hi : i < ds.length := by omega
    have g : ds[i]? = some ds[i] := List.getElem?_eq_getElem hi
    rw [List.drop_eq_getElem_cons hi] at hr'
    have hr' : ((bd ds[i]).bind fun q => (lcAll bd (ds.drop (i + 1))).bind fun z => .ok (q ++ z)) = .ok r' := hr'
    cases e1 : bd ds[i] with
    | bad => rw [e1] at hr'; cases hr'
    | err c => rw [e1] at hr'; cases hr'
    | ok q =>
      rw [e1, Rs.bind_ok] at hr'
      cases e2 : lcAll bd (ds.drop (i + 1)) with
      | bad => rw [e2] at hr'; cases hr'
      | err c => rw [e2] at hr'; cases hr'
      | ok z =>
        rw [e2, Rs.bind_ok] at hr'
        cases hr'
        obtain ⟨h1, h2⟩ := hgo i _ g
        have hl : (accD ++ q).length ≤ lim := by
          rw [← he] at hlen
          simp only [List.length_append] at hlen ⊢
          omega
        refine .inr ⟨h1, fun H' => ∃ acc', LcSt K N D Hs H' acc' (accD ++ q), fun H' ⟨acc', st'⟩ => ⟨m, Nat.lt_succ_self m, by omega, acc', accD ++ q, z, st', e2, by rw [List.append_assoc]; exact he⟩, fun x H' y => ?_⟩
        obtain ⟨s1, k1⟩ := h2 x H' y
        exact hb _ x H' acc accD q ⟨st.s.trans (.of s1), s1 _ _ st.d, st.a.same s1⟩ k1 e1 hl _ fun H2 acc2 st2 => ⟨acc2, st2⟩
/-- one item's tests and value -/
def bd1 (g : PyData → Ev → Rs Ev) (tt : Ev → Rs Bool) (fe : Ev → Rs PyData) (ρ : Ev) (d : PyData) : Rs (List PyData) := (g d ρ).bind fun ρ1 => (tt ρ1).bind fun b => if b = true then (fe ρ1).bind fun y => .ok [y] else .ok []
theorem bd1_run {B : Addr → Prop} {H0 : Hp} {N : Addr → Prop} {σ : L2.St} {ρ : Ev} {D : Addr} {Hs : Hp} {acc0 : List V} {g : PyData → Ev → Rs Ev} {tt : Ev → Rs Bool} {fe : Ev → Rs PyData} {tg : TG} {t : TT} {te : TE}
    (rp : Rep S.K B H0 N σ Hs ρ) (nD : N D) (h0 : H0 D = none) (bD : B D) (e0 : Hs D = some (.lst acc0))
    (hg : ∀ B H0 N σ H ρ v d Q, Rep S.K B H0 N σ H ρ → Dd S.K N H v d → EG S.K B H0 N H vs σ Q (g d ρ) → tg v σ H Q)
    (ht : ∀ B H0 N σ H ρ Q, Rep S.K B H0 N σ H ρ → ET S H Q E0 (tt ρ) → t σ H Q) (he : ∀ B H0 N σ H ρ Q, Rep S.K B H0 N σ H ρ → EE false S N H Q E0 (fe ρ) → te σ H Q) :
    ∀ d v H acc accD q, LcSt S.K N D Hs H acc accD → Dd S.K N H v d → bd1 g tt fe ρ d = .ok q → (accD ++ q).length ≤ lim → ∀ Nx : Hp → Prop, (∀ H' acc', LcSt S.K N D Hs H' acc' (accD ++ q) → Nx H') →
      tg v σ H fun σ2 H2 => wipe σ2 vs = wipe σ vs ∧ t σ2 H2 fun b H3 => if b = true then te σ2 H3 fun y H4 => ∃ acc, H4 D = some (.lst acc) ∧ acc.length < sizeLine ∧ Nx (upd H4 D (.lst (acc ++ [y]))) else Nx H3 := by
  intro d v H acc accD q st hv hbd hl Nx hN
  have rp1 : Rep S.K B H0 N σ H ρ := rp.moveX st.s nD e0 st.d h0 bD
  refine hg B H0 N σ H ρ v d _ rp1 hv ?_
  unfold bd1 at hbd
  cases e1 : g d ρ with
  | bad => rw [e1] at hbd; cases hbd
  | err c => rw [e1] at hbd; cases hbd
  | ok ρ1 =>
    rw [e1, Rs.bind_ok] at hbd
    intro σ1 r1 w1
    refine ⟨w1, ht B H0 N σ1 H ρ1 _ r1 ?_⟩
    cases e2 : tt ρ1 with
    | bad => rw [e2] at hbd; cases hbd
    | err c => rw [e2] at hbd; cases hbd
    | ok b =>
      rw [e2, Rs.bind_ok] at hbd
      intro H3 s3
      cases b with
      | false =>
        rw [if_neg Bool.false_ne_true] at hbd ⊢
        cases hbd
        exact hN H3 acc ⟨st.s.trans (.of s3), s3 _ _ st.d, by rw [List.append_nil]; exact st.a.same s3⟩
      | true =>
        rw [if_pos rfl] at hbd ⊢
        refine he B H0 N σ1 H3 ρ1 _ (r1.same s3) ?_
        cases e3 : fe ρ1 with
        | bad => rw [e3] at hbd; cases hbd
        | err c => rw [e3] at hbd; cases hbd
        | ok y =>
          rw [e3, Rs.bind_ok] at hbd
          cases hbd
          intro u H4 s4 k4
          have k4 : Dd S.K N H4 u y := k4
          have s34 := s3.trans s4
          have hD4 := s34 _ _ st.d
          have ha : DdAll S.K N H4 acc accD := st.a.same s34
          refine ⟨acc, hD4, ?_, hN _ (acc ++ [u]) ⟨(st.s.trans (.of s34)).upd, upd_same, ?_⟩⟩
          · rw [ha.len]
            simp only [List.length_append, List.length_singleton] at hl
            have : lim < sizeLine := by decide
            omega
          · have kx : KeepF N H4 N (upd H4 D (.lst (acc ++ [u]))) := keep_x (fun c o n e => by rw [upd_ne n]; exact e) nD hD4
            exact (ha.keep kx).app (.one (k4.keep kx))
def relab (scope sc : Scope) : Scope := { scope with names := scope.names.map fun (n, k) => if (k == NameKind.free && sc.kind == .function && sc.names.lookup n == some .cell) then (n, NameKind.cell) else (n, k) }
abbrev Sx.at (S : Sx) (scope : Scope) : Sx := { S with sc := relab scope S.sc, fc := fun x => scope.names.lookup x == some .cell }
theorem cs_blk {X : Cx} {E : XK} (c : Cs S X E) (s : Shared) (H : Hp) (scope : Scope) (cl : List (Str × Addr)) (C : Addr) (fp : List Addr) : Cs (S.at scope) (X.blk s H scope (compEnvC scope cl C X.env) fp) E0 where
  p := c.p
  w := c.w
  K := c.K
  mg := c.mg
  base := c.base
  N := c.N
  sc := by
    show relabel scope X.env = relab scope S.sc
    rw [← c.sc]
    rfl
  calm := c.calm
  room := c.room
  tk := takes0
  po := PassesOwn.never
  fn := fun x h => h
/-- the tests of a comprehension -/
def Dts (S : Sx) (es : List Expr) (f : Ev → Rs Bool) : Prop :=
  ∃ t : XK → TT, (∀ X E, Cs S X E → PTs X es (t E)) ∧ ∀ B H0 N σ H ρ Q E, Rep S.K B H0 N σ H ρ → ET S H Q E (f ρ) → t E σ H Q
def tY : Ev → Rs Bool := fun _ => .ok true
theorem dts_nil : Dts S [] tY := ⟨fun _ => tYes, fun X E c => pts_nil, fun B H0 N σ H ρ Q E r k => k H (Same.refl _)⟩
theorem dts_one {e : Expr} {f : Ev → Rs Bool} (h : Dt S e f) : Dts S [e] f := by
  obtain ⟨t, h1, h2⟩ := h
  exact ⟨t, fun X E c => pts_one (h1 X E c), h2⟩
noncomputable def cap (r : Rs (List PyData)) : Rs (List PyData) := match r with
  | .ok ds => @ite _ (ds.length ≤ lim) (Classical.propDecidable _) (.ok ds) (.bad)
  | _ => .bad
theorem cap_ok {r : Rs (List PyData)} {ds : List PyData} (h : cap r = .ok ds) : r = .ok ds ∧ ds.length ≤ lim := by
  unfold cap at h
  split at h
  · split at h
    · cases h
      exact ⟨rfl, by assumption⟩
    · cases h
  · cases h
noncomputable def lLc (vs : List Nat) (it : Ev → Rs (List PyData)) (g : PyData → Ev → Rs Ev) (tt : Ev → Rs Bool) (fe : Ev → Rs PyData) : Ev → Rs (List PyData) := fun ρ => (it ρ).bind fun ds => cap (lcAll (bd1 g tt fe (wipeE ρ vs)) ds)
theorem lc_run {tg iter elt : Expr} {ifs : List Expr} {scope : Scope} {it : Ev → Rs (List PyData)} {g : PyData → Ev → Rs Ev} {tt : Ev → Rs Bool} {fe : Ev → Rs PyData} (hi : DiW S tg iter it) (hg : Dx vs (S.at scope) tg g) (ht : Dts (S.at scope) ifs tt) (he : De false (S.at scope) elt fe) :
    ∃ (ti : XK → TI) (tgt : TG) (t : TT) (te : TE), (∀ X E, Cs S X E → PI X tg iter (ti E) ∧ (∀ s H C cl fp, PG (X.blk s H scope (compEnvC scope cl C X.env) fp) tg tgt) ∧ (∀ s H C cl fp, PTs (X.blk s H scope (compEnvC scope cl C X.env) fp) ifs t) ∧ ∀ s H C cl fp, PE (X.blk s H scope (compEnvC scope cl C X.env) fp) elt te) ∧
      ∀ B H0 N σ H ρ Q E, Rep S.K B H0 N σ H ρ → EF S N H Q E (lLc vs it g tt fe ρ) → tLc (ti E) tgt t te vs σ H Q := by
  obtain ⟨ti, h1, h2⟩ := hi
  obtain ⟨tgt, h3, h4⟩ := hg
  obtain ⟨t, h5, h6⟩ := ht
  obtain ⟨te, h7, h8⟩ := he
  refine ⟨ti, tgt, t E0, te E0, fun X E c => ⟨h1 X E c, fun s H C cl fp => h3 _ _ (cs_blk c s H scope cl C fp), fun s H C cl fp => h5 _ _ (cs_blk c s H scope cl C fp), fun s H C cl fp => h7 _ _ (cs_blk c s H scope cl C fp)⟩, fun B H0 N σ H ρ Q E rp k => ?_⟩
  refine h2 B H0 N σ H ρ _ E rp ?_
  unfold lLc at k
  cases e1 : it ρ with
  | bad => rw [e1] at k; exact k
  | err c => rw [e1] at k; exact k
  | ok ds =>
    rw [e1, Rs.bind_ok] at k
    intro J H1 s1 hj D hD
    have rp1 := rp.same s1
    cases e2 : cap (lcAll (bd1 g tt fe (wipeE ρ vs)) ds) with
    | bad => rw [e2] at k; exact k.elim
    | err c =>
      unfold cap at e2
      split at e2
      · split at e2 <;> cases e2
      · cases e2
    | ok r =>
      rw [e2] at k
      obtain ⟨hr, hl⟩ := cap_ok e2
      have rpD : Rep S.K (fun a => B a ∨ a = D) H0 (fun a => N a ∨ a = D) σ (upd H1 D (.lst [])) ρ := rp1.enterB (same_upd hD) hD (by rw [upd_same]; exact fun z => by cases z)
      have h0 : H0 D = none := rp1.base.free hD
      have kn : KeepF N H1 (fun a => N a ∨ a = D) (upd H1 D (.lst [])) := keep_new hD
      refine lc_loop (K := S.K) (N := fun a => N a ∨ a = D) (acc0 := []) (acc0D := []) (bd := bd1 g tt fe (wipeE ρ vs)) (bodyP := fun Nx x H' => tgt x (wipe σ vs) H' fun σ2 H2 => wipe σ2 vs = wipe σ vs ∧ t E0 σ2 H2 fun b H3 => if b = true then te E0 σ2 H3 fun y H4 => ∃ acc, H4 D = some (.lst acc) ∧ acc.length < sizeLine ∧ Nx (upd H4 D (.lst (acc ++ [y]))) else Nx H3)
        ⟨fun _ _ _ e => e, upd_same, .nil⟩ hr hl (fun H' acc accD st => ?_) ?_ (fun H' acc st => ?_)
      · have kx : KeepF (fun a => N a ∨ a = D) (upd H1 D (.lst [])) (fun a => N a ∨ a = D) H' := keep_x st.s (.inr rfl) upd_same
        have sm : Same H1 H' := fun a o e => st.s a o (ne_of_none e hD) (same_upd hD a o e)
        exact ⟨fun i d e => hj.go _ H' i d sm (kn.trans kx) e, hj.stop _ H' sm (kn.trans kx)⟩
      · have := bd1_run (S := S) (vs := vs) (g := g) (tt := tt) (fe := fe) (tg := tgt) (t := t E0) (te := te E0) (rpD.wipe vs) (.inr rfl) h0 (.inr rfl) upd_same (fun B H0 N σ H ρ v d Q => h4 B H0 N σ H ρ v d Q) (fun B H0 N σ H ρ Q => h6 B H0 N σ H ρ Q E0) (fun B H0 N σ H ρ Q => h8 B H0 N σ H ρ Q E0)
        have ww : wipe (wipe σ vs) vs = wipe σ vs := by
          refine List.ext_getElem? fun j => ?_
          rw [wipe_get, wipe_get, wipe_length]
          by_cases hj : j ∈ vs
          · rw [if_pos hj, if_pos hj]
          · rw [if_neg hj, if_neg hj]
        rw [ww] at this
        exact this
      · rw [List.nil_append] at st
        exact k D acc H' (s1.trans fun a o e => st.s a o (ne_of_none e hD) (same_upd hD a o e)) (s1.free hD) st.d st.a
theorem df_lc {elt tg iter : Expr} {ifs : List Expr} {scope : Scope} {own : List (Str × Nat)} {pos : Pos} {it : Ev → Rs (List PyData)} {g : PyData → Ev → Rs Ev} {tt : Ev → Rs Bool} {fe : Ev → Rs PyData} (nd : S.N.Nodup) (ok : BlkOk S.N S.sc scope own) (hi : DiW S tg iter it) (hg : Dx (own.map (·.2)) (S.at scope) tg g) (ht : Dts (S.at scope) ifs tt) (he : De false (S.at scope) elt fe) (hs : ∀ env x, foldedSetIterable iter env x = pure x := by intro _ _; rfl) : Df S (.ListComp elt [⟨tg, iter, ifs, 0⟩] scope pos) (lLc (own.map (·.2)) it g tt fe) := by
  obtain ⟨ti, tgt, t, te, h1, h2⟩ := lc_run hi hg ht he
  exact ⟨fun E => tLc (ti E) tgt t te (own.map (·.2)), fun X E c => let ⟨q1, q2, q3, q4⟩ := h1 X E c; pe_lc c.calm (by rw [c.N]; exact nd) q1 (by rw [c.N, c.sc]; exact ok) q2 q3 q4 (hs _), h2⟩
end
section
variable {S : Sx} {w : Bool}
/-! ### expressions within statements -/
/-- what an expression's result is handed to -/
theorem ES.err {B : Addr → Prop} {H0 : Hp} {N : Addr → Prop} {H : Hp} {D : Ends} {E : XK} {c : Str} (b : Same H0 H) (k : ES S B H0 N H D E (.err c)) : ∀ H', Same H H' → E (.ref (S.cls c)) none H' := fun H' s => k H' (b.trans s)
/-- the heap grew: what is wanted behind -/
theorem ES.from {B : Addr → Prop} {H0 : Hp} {N N' : Addr → Prop} {H H' : Hp} {D : Ends} {E : XK} {r : Rs Out} (kf : KeepF N H N' H') (k : ES S B H0 N H D E r) : ES S B H0 N' H' D E r := by
  cases r with
  | bad => exact k
  | err c => exact k
  | ok o =>
    cases o with
    | ret d => exact k
    | nx ρ2 => exact fun N2 σ2 H2 r2 k2 => k N2 σ2 H2 r2 (kf.trans k2)
    | brk ρ2 => exact fun N2 σ2 H2 r2 k2 => k N2 σ2 H2 r2 (kf.trans k2)
    | cnt ρ2 => exact fun N2 σ2 H2 r2 k2 => k N2 σ2 H2 r2 (kf.trans k2)
/-! ### return -/
def sRet (f : Ev → Rs PyData) : Ev → Rs Out := fun ρ => (f ρ).bind fun d => .ok (.ret d)
theorem ds_ret {e : Expr} {pos : Pos} {f : Ev → Rs PyData} (h : De false S e f) : Ds S (.Return (some e) pos) (sRet f) := by
  obtain ⟨t, h1, h2⟩ := h
  refine ⟨fun E => tRet (t E), fun X E c => ps_ret (h1 X E c), fun B H0 N σ H ρ D E r k => h2 B H0 N σ H ρ _ E r ?_⟩
  unfold sRet at k
  cases e1 : f ρ with
  | bad => rw [e1] at k; exact k
  | err c => rw [e1] at k; exact ES.err r.base k
  | ok d =>
    rw [e1] at k
    exact fun v H' s kk => k v H' (r.base.trans s) (Dd.keep (.weak r.hB) kk)
def sRetN : Ev → Rs Out := fun _ => .ok (.ret .none)
theorem ds_retN {pos : Pos} : Ds S (.Return none pos) sRetN := ⟨fun _ => tRetN, fun X E c => ps_retN, fun B H0 N σ H ρ D E r k => k _ H r.base .non⟩
/-! ### x = e -/
def sSet (i : Nat) (f : Ev → Rs PyData) : Ev → Rs Out := fun ρ => (f ρ).bind fun d => .ok (.nx (ρ.set i (some (false, d))))
theorem set_end {i : Nat} {f : Ev → Rs PyData} {t : TE} {E : XK} {B : Addr → Prop} {H0 : Hp} {N : Addr → Prop} {σ : L2.St} {H : Hp} {ρ : Ev} {D : Ends} (r : Rep S.K B H0 N σ H ρ) (h2 : ∀ Q, EE false S N H Q E (f ρ) → t σ H Q) (k : ES S B H0 N H D E (sSet i f ρ)) : tAsg t (gName i) D σ H := by
  refine h2 _ ?_
  unfold sSet at k
  cases e1 : f ρ with
  | bad => rw [e1] at k; exact k
  | err c => rw [e1] at k; exact ES.err r.base k
  | ok d =>
    rw [e1] at k
    exact fun v H' s kk => k N _ H' ((r.same s).set i kk) (.same s)
abbrev LocS (S : Sx) (x : Str) : Prop := S.sc.names.lookup x = some .local ∨ (S.sc.names.lookup x = some .cell ∧ S.fc x = true)
theorem loc_of {X : Cx} {E : XK} (c : Cs S X E) {x : Str} (hx : LocS S x) : L2.Loc X.env.scope x ∧ (X.fn x = true ∨ X.env.scope.names.lookup x = some .local) := by
  refine ⟨by unfold L2.Loc; rw [c.sc]; exact hx.imp id And.left, ?_⟩
  rcases hx with hx | hx
  · exact .inr (by rw [c.sc]; exact hx)
  · exact .inl (c.fn x hx.2)
theorem ds_set (i : Nat) {x : Str} {e : Expr} {pos pos' : Pos} {f : Ev → Rs PyData} (nd : S.N.Nodup) (h : De false S e f) (hi : S.N[i]? = some x := by rfl) (hx : LocS S x := by first | exact Or.inl rfl | exact Or.inr ⟨rfl, rfl⟩) (hs : ∀ env : Env, env.scope = S.sc → swapsWith e (some (.Name x pos')) pos.line env = pure false := by intro _ _; rfl) : Ds S (.Assign [.Name x pos'] e pos) (sSet i f) := by
  obtain ⟨t, h1, h2⟩ := h
  exact ⟨fun E => tAsg (t E) (gName i), fun X E c => ps_set (by rw [c.N]; exact nd) (n_of c hi) (loc_of c hx).1 (h1 X E c) (hs _ c.sc) (loc_of c hx).2, fun B H0 N σ H ρ D E r k => set_end r (fun Q q => h2 B H0 N σ H ρ Q E r q) k⟩
/-- a list of one's own, to be changed -/
def sSetO (i : Nat) (f : Ev → Rs (List PyData)) : Ev → Rs Out := fun ρ => (f ρ).bind fun ds => .ok (.nx (ρ.set i (some (true, .list ds))))
theorem Rep.setOw {K : PySem.W.Frag} {B : Addr → Prop} {H0 : Hp} {N : Addr → Prop} {σ : L2.St} {H H' : Hp} {ρ : Ev} (r : Rep K B H0 N σ H ρ) (i : Nat) {p : Addr} {o : HO} {dd : PyData} (s : Same H H') (hp : H p = none) (hl : H' p = some o) (hd : OwnD K (fun a => N a ∨ a = p) H' o dd) : Rep K B H0 (fun a => N a ∨ a = p) (σ.set i (some (.ref p))) H' (ρ.set i (some (true, dd))) := by
  have r1 := r.enter s hp (by rw [hl]; exact fun z => by cases z)
  have no := r.noown hp
  refine ⟨by rw [List.length_set, List.length_set]; exact r.len, r1.base, r1.told, r1.hB, fun j d h => ?_, fun j d h => ?_, fun j k d e a q1 q2 q3 q4 => ?_⟩
  · rcases set_cases h with ⟨_, z, _⟩ | ⟨n, h⟩
    · cases z
    · obtain ⟨v, e, k⟩ := r1.frz j d h
      exact ⟨v, by rw [List.getElem?_set_ne (Ne.symm n)]; exact e, k⟩
  · rcases set_cases h with ⟨rfl, z, hlt⟩ | ⟨n, h⟩
    · cases z
      exact ⟨p, o, List.getElem?_set_self (by rw [r.len]; exact hlt), hl, hd, r.base.free hp, .inr rfl, fun b => r.told p (r.hB p b) hp⟩
    · obtain ⟨a, o, e, k⟩ := r1.own j d h
      exact ⟨a, o, by rw [List.getElem?_set_ne (Ne.symm n)]; exact e, k⟩
  · rcases set_cases q1 with ⟨j1, z1, l1⟩ | ⟨n1, p1⟩
    · rcases set_cases q2 with ⟨k1, _, _⟩ | ⟨n2, p2⟩
      · rw [j1, k1]
      · rw [j1, List.getElem?_set_self (by rw [r.len]; exact l1)] at q3
        rw [List.getElem?_set_ne (Ne.symm n2)] at q4
        cases q3
        exact absurd q4 (no k e p2)
    · rcases set_cases q2 with ⟨k1, z2, l2⟩ | ⟨n2, p2⟩
      · rw [k1, List.getElem?_set_self (by rw [r.len]; exact l2)] at q4
        rw [List.getElem?_set_ne (Ne.symm n1)] at q3
        cases q4
        exact absurd q3 (no j d p1)
      · rw [List.getElem?_set_ne (Ne.symm n1)] at q3
        rw [List.getElem?_set_ne (Ne.symm n2)] at q4
        exact r.inj j k d e a p1 p2 q3 q4
theorem Rep.setO {K : PySem.W.Frag} {B : Addr → Prop} {H0 : Hp} {N : Addr → Prop} {σ : L2.St} {H H' : Hp} {ρ : Ev} (r : Rep K B H0 N σ H ρ) (i : Nat) {p : Addr} {xs : List V} {ds : List PyData} (s : Same H H') (hp : H p = none) (hl : H' p = some (.lst xs)) (hd : DdAll K (fun a => N a ∨ a = p) H' xs ds) : Rep K B H0 (fun a => N a ∨ a = p) (σ.set i (some (.ref p))) H' (ρ.set i (some (true, .list ds))) := r.setOw i s hp hl (.lst hd)
theorem setO_end {i : Nat} {f : Ev → Rs (List PyData)} {t : TE} {E : XK} {B : Addr → Prop} {H0 : Hp} {N : Addr → Prop} {σ : L2.St} {H : Hp} {ρ : Ev} {D : Ends} (r : Rep S.K B H0 N σ H ρ) (h2 : ∀ Q, EF S N H Q E (f ρ) → t σ H Q) (k : ES S B H0 N H D E (sSetO i f ρ)) : tAsg t (gName i) D σ H := by
  refine h2 _ ?_
  unfold sSetO at k
  cases e1 : f ρ with
  | bad => rw [e1] at k; exact k
  | err c => rw [e1] at k; exact ES.err r.base k
  | ok d =>
    rw [e1] at k
    exact fun p xs H' s hp hl hd => k _ _ H' (r.setO i s hp hl hd) ⟨fun a o q n => ⟨s a o q, fun z => z.elim n (ne_of_none q hp)⟩, fun a xs q => same_rd s q⟩
theorem ds_setO (i : Nat) {x : Str} {e : Expr} {pos pos' : Pos} {f : Ev → Rs (List PyData)} (nd : S.N.Nodup) (h : Df S e f) (hi : S.N[i]? = some x := by rfl) (hx : LocS S x := by first | exact Or.inl rfl | exact Or.inr ⟨rfl, rfl⟩) (hs : ∀ env : Env, env.scope = S.sc → swapsWith e (some (.Name x pos')) pos.line env = pure false := by intro _ _; rfl) : Ds S (.Assign [.Name x pos'] e pos) (sSetO i f) := by
  obtain ⟨t, h1, h2⟩ := h
  exact ⟨fun E => tAsg (t E) (gName i), fun X E c => ps_set (by rw [c.N]; exact nd) (n_of c hi) (loc_of c hx).1 (h1 X E c) (hs _ c.sc) (loc_of c hx).2, fun B H0 N σ H ρ D E r k => setO_end r (fun Q q => h2 B H0 N σ H ρ Q E r q) k⟩
theorem sw_cell {elt : Expr} {gs : List Comprehension} {scope : Scope} {pos py : Pos} {y : Str} {l : Nat} {sc : Scope} (h : sc.names.lookup y = some .cell) : ∀ env : Env, env.scope = sc → swapsWith (.ListComp elt gs scope pos) (some (.Name y py)) l env = pure false := by
  intro env he
  have hk : env.kindOf y = some .cell := by show env.scope.names.lookup y = _; rw [he]; exact h
  show (pure (env.blockKind == .function && env.kindOf y == some .local && py.line == pos.line && !(scope.names.any fun (n, k) => n == y && (k == .local || k == .cell))) : Sem Bool) = pure false
  rw [hk]
  have : (some NameKind.cell == some NameKind.local) = false := by decide
  rw [this, Bool.and_false, Bool.false_and, Bool.false_and]
/-- x = [..] on one line, x a local -/
theorem setLc_ps {i : Nat} {y : Str} {py : Pos} {elt tg iter : Expr} {ifs : List Expr} {scope : Scope} {own : List (Str × Nat)} {pos spos : Pos} {ti : TI} {tgt : TG} {t : TT} {te : TE} {X : Cx} {E : XK} (c : Cs S X E) (nd : S.N.Nodup) (ok : BlkOk S.N S.sc scope own) (hi : S.N[i]? = some y) (hx : S.sc.names.lookup y = some .local) (hk : S.sc.kind = .function) (hl : (py.line == pos.line) = true) (ha : (scope.names.any fun (n, k) => n == y && (k == .local || k == .cell)) = false)
    (q : PI X tg iter ti ∧ (∀ s H C cl fp, PG (X.blk s H scope (compEnvC scope cl C X.env) fp) tg tgt) ∧ (∀ s H C cl fp, PTs (X.blk s H scope (compEnvC scope cl C X.env) fp) ifs t) ∧ ∀ s H C cl fp, PE (X.blk s H scope (compEnvC scope cl C X.env) fp) elt te) (hs : ∀ env x, foldedSetIterable iter env x = pure x) :
    PS X (.Assign [.Name y py] (.ListComp elt [⟨tg, iter, ifs, 0⟩] scope pos) spos) (tAsg (tLc ti tgt t te (own.map (·.2))) (gName i)) :=
  ps_setLc c.calm (by rw [c.N]; exact nd) (n_of c hi) (by rw [c.sc]; exact hx) (sw_true (by rw [c.sc]; exact hk) (by rw [c.sc]; exact hx) hl ha) q.1 (by rw [c.N, c.sc]; exact ok) q.2.1 q.2.2.1 q.2.2.2 (hs _)
theorem ds_setLc (i : Nat) {y : Str} {py : Pos} {elt tg iter : Expr} {ifs : List Expr} {scope : Scope} {own : List (Str × Nat)} {pos spos : Pos} {it : Ev → Rs (List PyData)} {g : PyData → Ev → Rs Ev} {tt : Ev → Rs Bool} {fe : Ev → Rs PyData} (nd : S.N.Nodup) (ok : BlkOk S.N S.sc scope own) (hi : DiW S tg iter it) (hg : Dx (own.map (·.2)) (S.at scope) tg g) (ht : Dts (S.at scope) ifs tt) (he : De false (S.at scope) elt fe)
    (ha : (scope.names.any fun (n, k) => n == y && (k == .local || k == .cell)) = false) (hN : S.N[i]? = some y := by rfl) (hx : S.sc.names.lookup y = some .local := by rfl) (hk : S.sc.kind = .function := by rfl) (hl : (py.line == pos.line) = true := by rfl) (hs : ∀ env x, foldedSetIterable iter env x = pure x := by intro _ _; rfl) : Ds S (.Assign [.Name y py] (.ListComp elt [⟨tg, iter, ifs, 0⟩] scope pos) spos) (sSet i (eL (lLc (own.map (·.2)) it g tt fe))) := by
  obtain ⟨ti, tgt, t, te, h1, h2⟩ := lc_run hi hg ht he
  refine ⟨fun E => tAsg (tLc (ti E) tgt t te (own.map (·.2))) (gName i), fun X E c => setLc_ps c nd ok hN hx hk hl ha (h1 X E c) hs, fun B H0 N σ H ρ D E r k => set_end r (fun Q q => h2 B H0 N σ H ρ Q E r ?_) k⟩
  unfold eL at q
  cases e1 : lLc (own.map (·.2)) it g tt fe ρ with
  | bad => rw [e1] at q; exact q
  | err c => rw [e1] at q; exact q
  | ok ds =>
    rw [e1] at q
    exact fun p xs H' s hp hl hd => q _ H' s (.lst hl (new_of r.told hp) (hd.keep (.weak fun _ z => .inl z)))
theorem ds_setLcO (i : Nat) {y : Str} {py : Pos} {elt tg iter : Expr} {ifs : List Expr} {scope : Scope} {own : List (Str × Nat)} {pos spos : Pos} {it : Ev → Rs (List PyData)} {g : PyData → Ev → Rs Ev} {tt : Ev → Rs Bool} {fe : Ev → Rs PyData} (nd : S.N.Nodup) (ok : BlkOk S.N S.sc scope own) (hi : DiW S tg iter it) (hg : Dx (own.map (·.2)) (S.at scope) tg g) (ht : Dts (S.at scope) ifs tt) (he : De false (S.at scope) elt fe)
    (ha : (scope.names.any fun (n, k) => n == y && (k == .local || k == .cell)) = false) (hN : S.N[i]? = some y := by rfl) (hx : S.sc.names.lookup y = some .local := by rfl) (hk : S.sc.kind = .function := by rfl) (hl : (py.line == pos.line) = true := by rfl) (hs : ∀ env x, foldedSetIterable iter env x = pure x := by intro _ _; rfl) : Ds S (.Assign [.Name y py] (.ListComp elt [⟨tg, iter, ifs, 0⟩] scope pos) spos) (sSetO i (lLc (own.map (·.2)) it g tt fe)) := by
  obtain ⟨ti, tgt, t, te, h1, h2⟩ := lc_run hi hg ht he
  exact ⟨fun E => tAsg (tLc (ti E) tgt t te (own.map (·.2))) (gName i), fun X E c => setLc_ps c nd ok hN hx hk hl ha (h1 X E c) hs, fun B H0 N σ H ρ D E r k => setO_end r (fun Q q => h2 B H0 N σ H ρ Q E r q) k⟩
/-- a, b = e -/
def okE (r : Rs Ev) (f : Ev → Rs Out) : Rs Out := match r with
  | .ok ρ => f ρ
  | _ => .bad
def sAsg (f : Ev → Rs PyData) (g : PyData → Ev → Rs Ev) : Ev → Rs Out := fun ρ => (f ρ).bind fun d => okE (g d ρ) fun ρ' => .ok (.nx ρ')
theorem ds_asg {vs : List Nat} {tg e : Expr} {pos : Pos} {f : Ev → Rs PyData} {g : PyData → Ev → Rs Ev} (h : De false S e f) (hg : Dx vs S tg g) (hs : ∀ env, swapsWithSole [tg] e pos.line env = pure false := by intro _; rfl) (hw : ∀ env, swappedStores [tg] e env = pure none := by intro _; rfl) (h1 : ∀ env, (assignEach [tg] env).map (·.2) = [assign tg env] := by intro _; rfl) : Ds S (.Assign [tg] e pos) (sAsg f g) := by
  obtain ⟨t, h1', h2⟩ := h
  obtain ⟨u, h3, h4⟩ := hg
  refine ⟨fun E => tAsg (t E) u, fun X E c => ps_asg (h1' X E c) (h3 X E c) (hs _) (hw _) (h1 _), fun B H0 N σ H ρ D E r k => h2 B H0 N σ H ρ _ E r ?_⟩
  unfold sAsg at k
  cases e1 : f ρ with
  | bad => rw [e1] at k; exact k
  | err c => rw [e1] at k; exact ES.err r.base k
  | ok d =>
    rw [e1, Rs.bind_ok] at k
    intro v H' s kk
    refine h4 B H0 N σ H' ρ v d _ (r.same s) kk ?_
    cases e2 : g d ρ with
    | bad => rw [e2] at k; exact k
    | err c => rw [e2] at k; exact k
    | ok ρ' =>
      rw [e2] at k
      exact fun σ' r' _ => k N σ' H' r' (.same s)
/-- a, b = e1, e2: two names -/
def sPar (i j : Nat) (fs : Ev → Rs (List PyData)) : Ev → Rs Out := fun ρ => (fs ρ).bind fun
  | [d, e] => .ok (.nx ((ρ.set i (some (false, d))).set j (some (false, e))))
  | _ => .bad
/-! ### a list that stops being changed -/
def sFrz (i : Nat) (g : Ev → Rs Out) : Ev → Rs Out := fun ρ => match ρ[i]? with
  | some (some (true, .list ds)) => g (ρ.set i (some (false, .list ds)))
  | some (some (false, _)) => g ρ
  | _ => .bad
theorem Rep.freeze {K : PySem.W.Frag} {B : Addr → Prop} {H0 : Hp} {N : Addr → Prop} {σ : L2.St} {H : Hp} {ρ : Ev} (r : Rep K B H0 N σ H ρ) {i : Nat} {ds : List PyData} (h : ρ[i]? = some (some (true, .list ds))) : ∃ N', Rep K B H0 N' σ H (ρ.set i (some (false, .list ds))) ∧ KeepF N H N' H := by
  obtain ⟨a, o, e1, e3, e4, e5, e6, e7⟩ := r.own i _ h
  cases e4 with | lst e4 =>
  have hlt : i < ρ.length := (List.getElem?_eq_some_iff.mp h).1
  have wk : KeepF N H (fun b => N b ∧ b ≠ a) H := .weak fun b z => z.1
  refine ⟨fun b => N b ∧ b ≠ a, ⟨by rw [List.length_set]; exact r.len, r.base, fun b n => r.told b n.1, fun b hb => ⟨r.hB b hb, fun z => e7 (by rw [← z]; exact hb)⟩, fun j d' q => ?_, fun j d' q => ?_, fun j k d e b q1 q2 q3 q4 => ?_⟩, wk⟩
  · rcases set_cases q with ⟨rfl, z, _⟩ | ⟨n, q⟩
    · cases z
      exact ⟨.ref a, e1, .lst e3 (fun z => z.2 rfl) (e4.keep wk)⟩
    · obtain ⟨v, e, k⟩ := r.frz j d' q
      exact ⟨v, e, k.keep wk⟩
  · rcases set_cases q with ⟨_, z, _⟩ | ⟨n, q⟩
    · cases z
    · obtain ⟨b, o, f1, f3, f4, f5, f6, f7⟩ := r.own j d' q
      exact ⟨b, o, f1, f3, f4.keep wk, f5, ⟨f6, fun z => n (r.inj j i d' _ a q h (by rw [← z]; exact f1) e1)⟩, f7⟩
  · rcases set_cases q1 with ⟨_, z, _⟩ | ⟨n1, p1⟩
    · cases z
    · rcases set_cases q2 with ⟨_, z, _⟩ | ⟨n2, p2⟩
      · cases z
      · exact r.inj j k d e b p1 p2 q3 q4
theorem ds_frz (i : Nat) {s : Stmt} {g : Ev → Rs Out} (h : Ds S s g) : Ds S s (sFrz i g) := by
  obtain ⟨t, h1, h2⟩ := h
  refine ⟨t, h1, fun B H0 N σ H ρ D E r k => ?_⟩
  unfold sFrz at k
  split at k
  · rename_i ds q
    obtain ⟨N', r', kf⟩ := r.freeze q
    exact h2 B H0 N' σ H _ D E r' (k.from kf)
  · exact h2 B H0 N σ H ρ D E r k
  · exact k.elim
/-! ### lists changed -/
theorem Rep.mutO {K : PySem.W.Frag} {B : Addr → Prop} {H0 : Hp} {N : Addr → Prop} {σ : L2.St} {H : Hp} {ρ : Ev} (r : Rep K B H0 N σ H ρ) {i : Nat} {a : Addr} {d : PyData} {o' : HO} {dd : PyData} (h : ρ[i]? = some (some (true, d))) (e : σ[i]? = some (some (.ref a))) (hd : OwnD K N H o' dd) : Rep K B H0 N σ (upd H a o') (ρ.set i (some (true, dd))) ∧ KeepF N H N (upd H a o') := by
  obtain ⟨a', o, e1, e3, e4, e5, e6, e7⟩ := r.own i d h
  rw [e] at e1
  cases e1
  have hlt : i < ρ.length := (List.getElem?_eq_some_iff.mp h).1
  have sx : SameX a H (upd H a o') := fun c o n q => by rw [upd_ne n]; exact q
  have kx : KeepF N H N (upd H a o') := keep_o sx e6 e3 e4
  refine ⟨⟨by rw [List.length_set]; exact r.len, fun c o q => sx c o (ne_of_none q e5) (r.base c o q), r.told.upd, r.hB, fun j d' q => ?_, fun j d' q => ?_, fun j k d e b q1 q2 q3 q4 => ?_⟩, kx⟩
  · rcases set_cases q with ⟨_, z, _⟩ | ⟨n, q⟩
    · cases z
    · obtain ⟨v, e, k⟩ := r.frz j d' q
      exact ⟨v, e, k.keep kx⟩
  · rcases set_cases q with ⟨rfl, z, _⟩ | ⟨n, q⟩
    · cases z
      exact ⟨a, o', e, upd_same, hd.keep kx, e5, e6, e7⟩
    · obtain ⟨b, o, f1, f3, f4, f5, f6, f7⟩ := r.own j d' q
      have nb : b ≠ a := fun z => n (r.inj j i d' _ a q h (by rw [← z]; exact f1) e)
      exact ⟨b, o, f1, by rw [upd_ne nb]; exact f3, f4.keep kx, f5, f6, f7⟩
  · rcases set_cases q1 with ⟨j1, _, _⟩ | ⟨n1, p1⟩
    · rcases set_cases q2 with ⟨k1, _, _⟩ | ⟨n2, p2⟩
      · rw [j1, k1]
      · exact r.inj j k _ _ b (by rw [j1]; exact h) p2 q3 q4
    · rcases set_cases q2 with ⟨k1, _, _⟩ | ⟨n2, p2⟩
      · exact r.inj j k _ _ b p1 (by rw [k1]; exact h) q3 q4
      · exact r.inj j k _ _ b p1 p2 q3 q4
theorem Rep.mut {K : PySem.W.Frag} {B : Addr → Prop} {H0 : Hp} {N : Addr → Prop} {σ : L2.St} {H : Hp} {ρ : Ev} (r : Rep K B H0 N σ H ρ) {i : Nat} {a : Addr} {d : PyData} {ys : List V} {ds : List PyData} (h : ρ[i]? = some (some (true, d))) (e : σ[i]? = some (some (.ref a))) (hd : DdAll K N H ys ds) : Rep K B H0 N σ (upd H a (.lst ys)) (ρ.set i (some (true, .list ds))) ∧ KeepF N H N (upd H a (.lst ys)) := r.mutO h e (.lst hd)
/-- x.m(e ..), x a list of one's own -/
def sMut (i : Nat) (m : List PyData → List PyData → Rs (List PyData)) (fs : Ev → Rs (List PyData)) : Ev → Rs Out := fun ρ => match ρ[i]? with
  | some (some (true, .list ds)) => (fs ρ).bind fun as => (m ds as).bind fun ds' => .ok (.nx (ρ.set i (some (true, .list ds'))))
  | _ => .bad
/-- the rule r of the method does m -/
def MutD (S : Sx) (ww : Bool) (r : V → List V → Hp → VK → Prop) (m : List PyData → List PyData → Rs (List PyData)) : Prop := ∀ N H a xs ds vs as Q, H a = some (.lst xs) → DdAll S.K N H xs ds → Paired (DW ww S.K N H) vs as → ∀ ds', m ds as = .ok ds' → (∀ v ys, DdAll S.K N H ys ds' → Q v (upd H a (.lst ys))) → r (.ref a) vs H Q
def noErrM (m : List PyData → List PyData → Rs (List PyData)) : Prop := ∀ ds as c, m ds as ≠ .err c
theorem mut_run {i : Nat} {m : List PyData → List PyData → Rs (List PyData)} {fs : Ev → Rs (List PyData)} {r : V → List V → Hp → VK → Prop} {t : TA} {E : XK} {B : Addr → Prop} {H0 : Hp} {N : Addr → Prop} {σ : L2.St} {H : Hp} {ρ : Ev} {D : Ends} {ww : Bool} (hm : MutD S ww r m) (hn : noErrM m) (rp : Rep S.K B H0 N σ H ρ) (h2 : ∀ H Q, Rep S.K B H0 N σ H ρ → EA ww S N H Q E (fs ρ) → t σ H Q) (k : ES S B H0 N H D E (sMut i m fs ρ)) :
    tDrop (tBM S.K "list" r (tVar i) t) D σ H := by
  unfold sMut at k
  split at k
  · rename_i ds q
    obtain ⟨a, o, e1, e3, e4, _⟩ := rp.own i _ q
    cases e4 with | lst e4 =>
    rename_i xs
    refine ⟨.ref a, e1, .inl ⟨rfl, xs, SqL.of e3⟩, h2 H _ rp ?_⟩
    cases q1 : fs ρ with
    | bad => rw [q1] at k; exact k
    | err c => rw [q1] at k; exact ES.err rp.base k
    | ok as =>
      rw [q1, Rs.bind_ok] at k
      intro vs H1 s1 k1
      cases q2 : m ds as with
      | bad => rw [q2] at k; exact k.elim
      | err c => exact absurd q2 (hn ds as c)
      | ok ds' =>
        rw [q2, Rs.bind_ok] at k
        have r1 := rp.same s1
        refine hm N H1 a xs ds vs as _ (s1 _ _ e3) (e4.same s1) k1 ds' q2 fun v ys hy => ?_
        obtain ⟨r2, kf⟩ := r1.mut q e1 hy
        exact k N σ _ r2 ((KeepF.same s1).trans kf)
  · exact k.elim
end
section
variable {S : Sx} {w : Bool}
theorem ds_mut {i : Nat} {x : Str} {e : Expr} {es : List Expr} {name : Str} {id : String} {xp apos cpos pos : Pos} {ww : Bool} {m : List PyData → List PyData → Rs (List PyData)} {fs : Ev → Rs (List PyData)} {r : V → List V → Hp → VK → Prop} (slot : Slot "list" name id) (hty : typeOf (.builtin id) = pure (.type "method_descriptor")) (hr : ∀ X E, Cs S X E → MtR X id r) (hm : MutD S ww r m) (hn : noErrM m)
    (ha : Da ww S (e :: es) fs) (hi : S.N[i]? = some x) (hv : Vis S.sc x) (hd : (x == ("__debug__" : Str)) = false) (hcd : (x == ("__classdict__" : Str)) = false)
    (hfew : ∀ env, ((backTo cpos (starEach (e :: es) env)).all (fun x => !x.1) && (backToKw cpos (keywordEach [] env)).all (fun x => x.1.isSome) && decide ((e :: es).length + ([] : List Keyword).length + (if ([] : List Keyword).isEmpty then 0 else 1) < 30)) = true) (hline : (apos.endLine == cpos.line) = true) (hs : ∀ env, starEach (e :: es) env = (false, eval e env) :: starEach es env) (hpl : ∀ env, (backTo cpos (starEach es env)).any (·.1) = false) :
    Ds S (.Expr (.Call (.Attribute (.Name x xp) name apos) (e :: es) [] cpos) pos) (sMut i m fs) := by
  obtain ⟨t, h1, h2, _⟩ := ha
  exact ⟨fun E => tDrop (tBM S.K "list" r (tVar i) (t E)), fun X E c => by
    rw [← c.K]
    exact ps_expr (pe_bm PySem.F.plainAttrs_list slot hty (hr X E c) (pe_var (n_of c hi) (vis_of c hv) hd hcd) (h1 X E c) rfl (hfew _) hline (hs _) (hpl _)) rfl, fun B H0 N σ H ρ D E r k => mut_run hm hn r (fun H' Q r' q => h2 B H0 N σ H' ρ Q E r' q) k⟩
noncomputable def appM (ds as : List PyData) : Rs (List PyData) := match as with
  | [y] => @ite _ (ds.length < lim) (Classical.propDecidable _) (.ok (ds ++ [y])) (.bad)
  | _ => .bad
theorem noErr_app : noErrM appM := fun ds as c h => by
  unfold appM at h
  split at h
  · split at h <;> cases h
  · cases h
theorem mutD_app : MutD S false rAppend appM := by
  intro N H a xs ds vs as Q ha hd hv ds' hm q
  unfold appM at hm
  split at hm
  · rename_i y
    split at hm
    · rename_i hl
      cases hm
      obtain ⟨v, rfl, hy⟩ := pd1 hv
      have : lim < sizeLine := by decide
      exact ⟨a, xs, v, rfl, rfl, ha, by rw [hd.len]; omega, q _ _ (hd.app (.one hy))⟩
    · cases hm
  · cases hm
theorem ds_append (i : Nat) {x : Str} {e : Expr} {xp apos cpos pos : Pos} {fs : Ev → Rs (List PyData)} (ha : Da false S [e] fs) (hi : S.N[i]? = some x := by rfl) (hv : Vis S.sc x := by first | exact Or.inl rfl | exact Or.inr (Or.inl rfl) | exact Or.inr (Or.inr rfl)) (hd : (x == ("__debug__" : Str)) = false := by decide) (hcd : (x == ("__classdict__" : Str)) = false := by decide)
    (hfew : ∀ env, ((backTo cpos (starEach [e] env)).all (fun x => !x.1) && (backToKw cpos (keywordEach [] env)).all (fun x => x.1.isSome) && decide ([e].length + ([] : List Keyword).length + (if ([] : List Keyword).isEmpty then 0 else 1) < 30)) = true := by intro _; rfl) (hline : (apos.endLine == cpos.line) = true := by rfl) (hs : ∀ env, starEach [e] env = (false, eval e env) :: starEach [] env := by intro _; rfl) (hpl : ∀ env, (backTo cpos (starEach [] env)).any (·.1) = false := by intro _; rfl) :
    Ds S (.Expr (.Call (.Attribute (.Name x xp) "append" apos) [e] [] cpos) pos) (sMut i appM fs) := ds_mut PySem.F.slot_list_append PySem.F.type_list_append (fun X E c => mt_append) mutD_app noErr_app ha hi hv hd hcd hfew hline hs hpl
noncomputable def extM (ds as : List PyData) : Rs (List PyData) := match as with
  | [.list es] => @ite _ (ds.length + es.length ≤ lim) (Classical.propDecidable _) (.ok (ds ++ es)) (.bad)
  | _ => .bad
theorem noErr_ext : noErrM extM := fun ds as c h => by
  unfold extM at h
  split at h
  · split at h <;> cases h
  · cases h
theorem mutD_ext : MutD S true rExtend extM := by
  intro N H a xs ds vs as Q ha hd hv ds' hm q
  unfold extM at hm
  split at hm
  · rename_i es
    split at hm
    · rename_i hl
      cases hm
      obtain ⟨v, rfl, hy⟩ := pd1 hv
      obtain ⟨b, zs, rfl, eb, kb⟩ := Dw.lst hy
      exact ⟨a, b, xs, zs, rfl, rfl, ha, eb, by rw [hd.len, kb.len]; exact Nat.le_trans hl lim_line, q _ _ (hd.app kb)⟩
    · cases hm
  · cases hm
theorem ds_extend (i : Nat) {x : Str} {e : Expr} {xp apos cpos pos : Pos} {fs : Ev → Rs (List PyData)} (ha : Da true S [e] fs) (hi : S.N[i]? = some x := by rfl) (hv : Vis S.sc x := by first | exact Or.inl rfl | exact Or.inr (Or.inl rfl) | exact Or.inr (Or.inr rfl)) (hd : (x == ("__debug__" : Str)) = false := by decide) (hcd : (x == ("__classdict__" : Str)) = false := by decide)
    (hfew : ∀ env, ((backTo cpos (starEach [e] env)).all (fun x => !x.1) && (backToKw cpos (keywordEach [] env)).all (fun x => x.1.isSome) && decide ([e].length + ([] : List Keyword).length + (if ([] : List Keyword).isEmpty then 0 else 1) < 30)) = true := by intro _; rfl) (hline : (apos.endLine == cpos.line) = true := by rfl) (hs : ∀ env, starEach [e] env = (false, eval e env) :: starEach [] env := by intro _; rfl) (hpl : ∀ env, (backTo cpos (starEach [] env)).any (·.1) = false := by intro _; rfl) :
    Ds S (.Expr (.Call (.Attribute (.Name x xp) "extend" apos) [e] [] cpos) pos) (sMut i extM fs) := ds_mut PySem.F.slot_list_extend PySem.F.type_list_extend (fun X E c => mt_extend) mutD_ext noErr_ext ha hi hv hd hcd hfew hline hs hpl
/-- x[j] = e -/
def sSetIx (i : Nat) (fe fj : Ev → Rs PyData) : Ev → Rs Out := fun ρ => (fe ρ).bind fun v => match ρ[i]? with
  | some (some (true, .list ds)) => (fj ρ).bind fun
    | .int j => match ixN ds.length j with
      | some n => .ok (.nx (ρ.set i (some (true, .list (ds.set n v)))))
      | none => .bad
    | _ => .bad
  | _ => .bad
theorem ds_setIx (i : Nat) {x : Str} {e j : Expr} {xp spos pos : Pos} {fe fj : Ev → Rs PyData} (he : De false S e fe) (hj : De true S j fj) (hi : S.N[i]? = some x := by rfl) (hv : Vis S.sc x := by first | exact Or.inl rfl | exact Or.inr (Or.inl rfl) | exact Or.inr (Or.inr rfl)) (hd : (x == ("__debug__" : Str)) = false := by decide) (hcd : (x == ("__classdict__" : Str)) = false := by decide) (hs : ∀ env, swapsWithSole [.Subscript (.Name x xp) j spos] e pos.line env = pure false := by intro _; rfl) (hw : ∀ env, swappedStores [.Subscript (.Name x xp) j spos] e env = pure none := by intro _; rfl)
    (hsb : ∀ env v, assign (.Subscript (.Name x xp) j spos) env v = (do let ov ← holding [v] (eval (.Name x xp) env); let iv ← holding [v, ov] (eval j env); standAt spos; holding [v, ov, iv] (setItem ov iv v); release [v, ov, iv] []) := by intro _ _; rfl) : Ds S (.Assign [.Subscript (.Name x xp) j spos] e pos) (sSetIx i fe fj) := by
  obtain ⟨t, h1, h2⟩ := he
  obtain ⟨u, h3, h4⟩ := hj
  refine ⟨fun E => tAsg (t E) (gSub (tVar i) (u E) rSetL), fun X E c => ps_asg (h1 X E c) (pg_sub (pe_var (n_of c hi) (vis_of c hv) hd hcd) (h3 X E c) set_list (hsb _)) (hs _) (hw _) rfl, fun B H0 N σ H ρ D E r k => h2 B H0 N σ H ρ _ E r ?_⟩
  unfold sSetIx at k
  cases e1 : fe ρ with
  | bad => rw [e1] at k; exact k
  | err c => rw [e1] at k; exact ES.err r.base k
  | ok v =>
    rw [e1, Rs.bind_ok] at k
    intro y H1 s1 k1
    split at k
    · rename_i ds q
      obtain ⟨a, o, f1, f3, f4, _⟩ := r.own i _ q
      cases f4 with | lst f4 =>
      rename_i xs
      refine ⟨.ref a, f1, h4 B H0 N σ H1 ρ _ E (r.same s1) ?_⟩
      cases e2 : fj ρ with
      | bad => rw [e2] at k; exact k
      | err c => rw [e2] at k; exact fun H' s' => ES.err r.base k H' (s1.trans s')
      | ok jd =>
        rw [e2, Rs.bind_ok] at k
        intro z H2 s2 k2
        cases jd with
        | int j =>
          have k : ES S B H0 N H D E (match ixN ds.length j with
            | some n => .ok (.nx (ρ.set i (some (true, .list (ds.set n v)))))
            | none => .bad) := k
          cases e3 : ixN ds.length j with
          | none => rw [e3] at k; exact k.elim
          | some n =>
            rw [e3] at k
            have s12 := s1.trans s2
            have r2 := r.same s12
            have hd := f4.same s12
            cases (DW.w k2).int
            refine ⟨a, xs, j, n, rfl, rfl, s12 _ _ f3, by rw [hd.len]; exact e3, ?_⟩
            obtain ⟨r3, kf⟩ := r2.mut q f1 (hd.set (Dd.same k1 s2) n)
            exact k N σ _ r3 ((KeepF.same s12).trans kf)
        | _ => exact k.elim
    · exact k.elim
/-! ### if, for, while -/
def sIf (c : Ev → Rs Bool) (a b : Ev → Rs Out) : Ev → Rs Out := fun ρ => (c ρ).bind fun k => if k = true then a ρ else b ρ
theorem ds_if {c : Expr} {a b : List Stmt} {pos : Pos} {fc : Ev → Rs Bool} {fa fb : Ev → Rs Out} (hc : Dt S c fc) (ha : Dss S a fa) (hb : Dss S b fb) : Ds S (.If c a b pos) (sIf fc fa fb) := by
  obtain ⟨t, h1, h2⟩ := hc
  obtain ⟨u, h3, h4⟩ := ha
  obtain ⟨z, h5, h6⟩ := hb
  refine ⟨fun E => tIfS (t E) (u E) (z E), fun X E c => ps_if (h1 X E c) (h3 X E c) (h5 X E c), fun B H0 N σ H ρ D E r k => h2 B H0 N σ H ρ _ E r ?_⟩
  unfold sIf at k
  cases e1 : fc ρ with
  | bad => rw [e1] at k; exact k
  | err c => rw [e1] at k; exact ES.err r.base k
  | ok b =>
    rw [e1, Rs.bind_ok] at k
    intro H1 s1
    cases b with
    | true =>
      rw [if_pos rfl] at k ⊢
      exact h4 B H0 N σ H1 ρ D E (r.same s1) (k.from (.same s1))
    | false =>
      rw [if_neg Bool.false_ne_true] at k ⊢
      exact h6 B H0 N σ H1 ρ D E (r.same s1) (k.from (.same s1))
def forGo (g : PyData → Ev → Rs Ev) (b : Ev → Rs Out) : List PyData → Ev → Rs Out
  | [], ρ => .ok (.nx ρ)
  | d :: ds, ρ => okE (g d ρ) fun ρ1 => (b ρ1).bind fun
    | .nx ρ2 => forGo g b ds ρ2
    | .cnt ρ2 => forGo g b ds ρ2
    | .brk ρ2 => .ok (.nx ρ2)
    | .ret d => .ok (.ret d)
def sFor (it : Ev → Rs (List PyData)) (g : PyData → Ev → Rs Ev) (b : Ev → Rs Out) : Ev → Rs Out := fun ρ => (it ρ).bind fun ds => forGo g b ds ρ
theorem ds_for {vs : List Nat} {tg iter : Expr} {body : List Stmt} {pos : Pos} {it : Ev → Rs (List PyData)} {g : PyData → Ev → Rs Ev} {b : Ev → Rs Out} (hi : Di S tg iter it) (hg : Dx vs S tg g) (hb : Dss S body b) (hs : ∀ env x, foldedSetIterable iter env x = pure x := by intro _ _; rfl) : Ds S (.For tg iter body [] pos) (sFor it g b) := by
  obtain ⟨t, h1, h2⟩ := hi
  obtain ⟨u, h3, h4⟩ := hg
  obtain ⟨z, h5, h6⟩ := hb
  refine ⟨fun E => tFor (t E) u (z E), fun X E c => ps_for c.po c.calm (h1 X E c) (h3 X E c) (h5 X E c) (hs _), fun B H0 N σ H ρ D E r k => h2 B H0 N σ H ρ _ E r ?_⟩
  unfold sFor at k
  cases e1 : it ρ with
  | bad => rw [e1] at k; exact k
  | err c => rw [e1] at k; exact ES.err r.base k
  | ok ds =>
    rw [e1, Rs.bind_ok] at k
    intro J H1 s1 hj
    obtain ⟨Sr, j1, j2, j3, j4⟩ := hj.h
    refine ⟨fun i m σ' H' => i + m = ds.length ∧ ∃ N' ρ', Rep S.K B H0 N' σ' H' ρ' ∧ Sr N' H' ∧ KeepF N H N' H' ∧ ES S B H0 N' H' D E (forGo g b (ds.drop i) ρ'), ⟨ds.length, Nat.zero_add _, N, ρ, r.same s1, j1, .same s1, k.from (.same s1)⟩, fun i m σ' H' hW => ?_⟩
    obtain ⟨hm, N', ρ', r', sr, kf, k'⟩ := hW
    match m, hm with
    | 0, hm =>
      have hi : i = ds.length := by omega
      subst hi
      rw [List.drop_length] at k'
      exact .inl ⟨j4 N' H' sr, k' N' σ' H' r' .refl⟩
    | m + 1, hm =>
      have hi : i < ds.length := by omega
      have gd : ds[i]? = some ds[i] := List.getElem?_eq_getElem hi
      rw [List.drop_eq_getElem_cons hi] at k'
      obtain ⟨go, yl⟩ := j3 N' H' i _ sr gd
      refine .inr ⟨go, fun σ2 H2 => ∃ N2 ρ2, Rep S.K B H0 N2 σ2 H2 ρ2 ∧ Sr N2 H2 ∧ KeepF N H N2 H2 ∧ ES S B H0 N2 H2 D E (forGo g b (ds.drop (i + 1)) ρ2), fun σ2 H2 ⟨N2, ρ2, a1, a2, a3, a4⟩ => ⟨m, Nat.lt_succ_self m, by omega, N2, ρ2, a1, a2, a3, a4⟩, fun x H2 y => ?_⟩
      obtain ⟨s2, hx⟩ := yl x H2 y
      refine h4 B H0 N' σ' H2 ρ' x _ _ (r'.same s2) hx ?_
      have k2 : ES S B H0 N' H' D E (okE (g ds[i] ρ') fun ρ1 => (b ρ1).bind fun
        | .nx ρ2 => forGo g b (ds.drop (i + 1)) ρ2
        | .cnt ρ2 => forGo g b (ds.drop (i + 1)) ρ2
        | .brk ρ2 => .ok (.nx ρ2)
        | .ret d => .ok (.ret d)) := k'
      cases e2 : g ds[i] ρ' with
      | bad => rw [e2] at k2; exact k2
      | err c => rw [e2] at k2; exact k2
      | ok ρ1 =>
        rw [e2] at k2
        intro σ1 r1 _
        refine h6 B H0 N' σ1 H2 ρ1 _ E r1 ?_
        have k2 : ES S B H0 N' H' D E ((b ρ1).bind fun
          | .nx ρ2 => forGo g b (ds.drop (i + 1)) ρ2
          | .cnt ρ2 => forGo g b (ds.drop (i + 1)) ρ2
          | .brk ρ2 => .ok (.nx ρ2)
          | .ret d => .ok (.ret d)) := k2
        have sk : KeepF N' H' N' H2 := .same s2
        cases e3 : b ρ1 with
        | bad => rw [e3] at k2; exact k2
        | err c => rw [e3] at k2; exact k2
        | ok o =>
          rw [e3, Rs.bind_ok] at k2
          cases o with
          | nx ρ2 => exact fun N2 σ2 H3 r2 kk => ⟨N2, ρ2, r2, j2 _ _ _ _ sr (sk.trans kk), kf.trans (sk.trans kk), ES.from (sk.trans kk) k2⟩
          | cnt ρ2 => exact fun N2 σ2 H3 r2 kk => ⟨N2, ρ2, r2, j2 _ _ _ _ sr (sk.trans kk), kf.trans (sk.trans kk), ES.from (sk.trans kk) k2⟩
          | brk ρ2 => exact fun N2 σ2 H3 r2 kk => k2 N2 σ2 H3 r2 (sk.trans kk)
          | ret d => exact k2
def whileGo (c : Ev → Rs Bool) (b : Ev → Rs Out) : Nat → Ev → Rs Out
  | 0, _ => .bad
  | n + 1, ρ => (c ρ).bind fun k => if k = true then (b ρ).bind fun
    | .nx ρ2 => whileGo c b n ρ2
    | .cnt ρ2 => whileGo c b n ρ2
    | .brk ρ2 => .ok (.nx ρ2)
    | .ret d => .ok (.ret d)
    else .ok (.nx ρ)
def sWhile (n : Nat) (c : Ev → Rs Bool) (b : Ev → Rs Out) : Ev → Rs Out := whileGo c b n
theorem ds_while (n : Nat) {c : Expr} {body : List Stmt} {pos : Pos} {fc : Ev → Rs Bool} {b : Ev → Rs Out} (hc : Dt S c fc) (hb : Dss S body b) : Ds S (.While c body [] pos) (sWhile n fc b) := by
  obtain ⟨t, h1, h2⟩ := hc
  obtain ⟨z, h5, h6⟩ := hb
  refine ⟨fun E => tWhile (t E) (z E), fun X E c => ps_while c.po (h1 X E c) (h5 X E c), fun B H0 N σ H ρ D E r k => ?_⟩
  refine ⟨fun m σ' H' => ∃ N' ρ', Rep S.K B H0 N' σ' H' ρ' ∧ ES S B H0 N' H' D E (whileGo fc b m ρ'), ⟨n, N, ρ, r, k⟩, fun m σ' H' hW => ?_⟩
  obtain ⟨N', ρ', r', k'⟩ := hW
  match m with
  | 0 => exact k'.elim
  | m + 1 =>
    refine h2 B H0 N' σ' H' ρ' _ E r' ?_
    have k2 : ES S B H0 N' H' D E ((fc ρ').bind fun k => if k = true then (b ρ').bind fun
      | .nx ρ2 => whileGo fc b m ρ2
      | .cnt ρ2 => whileGo fc b m ρ2
      | .brk ρ2 => .ok (.nx ρ2)
      | .ret d => .ok (.ret d)
      else .ok (.nx ρ')) := k'
    cases e1 : fc ρ' with
    | bad => rw [e1] at k2; exact k2
    | err c => rw [e1] at k2; exact ES.err r'.base k2
    | ok q =>
      rw [e1, Rs.bind_ok] at k2
      intro H1 s1
      cases q with
      | false =>
        rw [if_neg Bool.false_ne_true] at k2 ⊢
        exact k2 N' σ' H1 (r'.same s1) (.same s1)
      | true =>
        rw [if_pos rfl] at k2 ⊢
        refine ⟨fun σ2 H2 => ∃ N2 ρ2, Rep S.K B H0 N2 σ2 H2 ρ2 ∧ ES S B H0 N2 H2 D E (whileGo fc b m ρ2), fun σ2 H2 q => ⟨m, Nat.lt_succ_self m, q⟩, h6 B H0 N' σ' H1 ρ' _ E (r'.same s1) ?_⟩
        have sk : KeepF N' H' N' H1 := .same s1
        cases e3 : b ρ' with
        | bad => rw [e3] at k2; exact k2
        | err c => rw [e3] at k2; exact k2
        | ok o =>
          rw [e3, Rs.bind_ok] at k2
          cases o with
          | nx ρ2 => exact fun N2 σ2 H3 r2 kk => ⟨N2, ρ2, r2, ES.from (sk.trans kk) k2⟩
          | cnt ρ2 => exact fun N2 σ2 H3 r2 kk => ⟨N2, ρ2, r2, ES.from (sk.trans kk) k2⟩
          | brk ρ2 => exact fun N2 σ2 H3 r2 kk => k2 N2 σ2 H3 r2 (sk.trans kk)
          | ret d => exact k2
def sBrk : Ev → Rs Out := fun ρ => .ok (.brk ρ)
def sCnt : Ev → Rs Out := fun ρ => .ok (.cnt ρ)
theorem ds_break {pos : Pos} : Ds S (.Break pos) sBrk := ⟨fun _ => tBreak, fun X E c => ps_break, fun B H0 N σ H ρ D E r k => k N σ H r .refl⟩
theorem ds_continue {pos : Pos} : Ds S (.Continue pos) sCnt := ⟨fun _ => tCont, fun X E c => ps_continue, fun B H0 N σ H ρ D E r k => k N σ H r .refl⟩
theorem ds_pass {pos : Pos} : Ds S (.Pass pos) sNil := ⟨fun _ => tNext, fun X E c => ps_pass, fun B H0 N σ H ρ D E r k => k N σ H r .refl⟩
/-- e as a statement: what it gives is dropped -/
def sDrop (f : Ev → Rs PyData) : Ev → Rs Out := fun ρ => (f ρ).bind fun _ => .ok (.nx ρ)
theorem ds_expr {e : Expr} {pos : Pos} {f : Ev → Rs PyData} (h : De true S e f) (hs : ∀ env, swapsWith e none pos.line env = pure false := by intro _; rfl) : Ds S (.Expr e pos) (sDrop f) := by
  obtain ⟨t, h1, h2⟩ := h
  refine ⟨fun E => tDrop (t E), fun X E c => ps_expr (h1 X E c) (hs _), fun B H0 N σ H ρ D E r k => h2 B H0 N σ H ρ _ E r ?_⟩
  unfold sDrop at k
  cases e1 : f ρ with
  | bad => rw [e1] at k; exact k
  | err c => rw [e1] at k; exact ES.err r.base k
  | ok d =>
    rw [e1] at k
    exact fun v H' s kk => k N σ H' (r.same s) (.same s)
/-! ### raise -/
structure ErrD (S : Gx) (x : Str) : Prop where
  g : S.mg x = some (.ref (S.cls x))
  k : PySem.W.keepIn S.K (.ref (S.cls x)) = true
  b : PySem.W.subIn S.K (.ref (S.cls x)) (.type "BaseException") = some true
  t : PySem.W.typeIn S.K (.ref (S.cls x)) = some (.type "type")
  x : PySem.W.excIn S.K (S.cls x) [.type "ValueError", .type "Exception", .type "BaseException", .type "object"] "ValueError.__new__" = true
def sRaise (c : Str) : Ev → Rs Out := fun _ => .err c
theorem ds_raise {x m : Str} {j : Nat} {p p2 pos pos2 : Pos} (T : ErrD S.toGx x) (hg : Gn S x := by rfl) (hdb : (x == ("__debug__" : Str)) = false := by decide) : Ds S (.Raise (some (.Call (.Name x p) [.Constant (.str m) j p2] [] pos)) none pos2) (sRaise x) := by
  refine ⟨fun E => fun _ σ H => E (.ref (S.cls x)) none H, fun X E c => ?_, fun B H0 N σ H ρ D E r k => k H r.base⟩
  refine ps_raise (W := fun c d _ H => E c d H) c.calm c.tk (pmk_own PySem.F.excBase_ValueError (by rw [c.K]; exact T.x) (by rw [c.mg]; exact T.g) (by rw [c.K]; exact T.k) (raises_own (by rw [c.K]; exact T.b) (by rw [c.K]; exact T.t)) (gl_of c hg) hdb)
/-! ### a def -/
def start0 (n : Nat) (ds : List PyData) : Ev := ds.map (fun d => some (false, d)) ++ List.replicate (n - ds.length) none
def fn (n : Nat) (body : Ev → Rs Out) : List PyData → Rs PyData := fun ds => (body (start0 n ds)).bind fun
  | .nx _ => .ok .none
  | .ret d => .ok d
  | _ => .bad
end
theorem start_rep {K : PySem.W.Frag} {N : Addr → Prop} {H : Hp} {Nm : List Str} {vs : List V} {ds : List PyData} (hd : DdAll K N H vs ds) (t : Told N H) : Rep K N H N (start Nm vs) H (start0 Nm.length ds) := by
  have hl := hd.len
  have get : ∀ (i : Nat) (b : Bool) d, (start0 Nm.length ds)[i]? = some (some (b, d)) → b = false ∧ ds[i]? = some d := fun i b d h => by
    unfold start0 at h
    by_cases hi : i < ds.length
    · rw [List.getElem?_append_left (by rw [List.length_map]; exact hi), List.getElem?_map, List.getElem?_eq_getElem hi] at h
      cases h
      exact ⟨rfl, List.getElem?_eq_getElem hi⟩
    · rw [List.getElem?_append_right (by rw [List.length_map]; omega), List.getElem?_replicate] at h
      split at h <;> cases h
  refine ⟨?_, Same.refl _, t, fun _ h => h, fun i d h => ?_, fun i d h => ?_, fun i j d e a h1 => ?_⟩
  · unfold L2.start start0
    simp only [List.length_append, List.length_map, List.length_replicate]
    omega
  · obtain ⟨_, h⟩ := get i _ d h
    obtain ⟨v, hv, kv⟩ := hd.get h
    refine ⟨v, ?_, kv⟩
    unfold L2.start
    have hi : i < vs.length := (List.getElem?_eq_some_iff.mp hv).1
    rw [List.getElem?_append_left (by rw [List.length_map]; exact hi), List.getElem?_map, hv]
    rfl
  · exact absurd (get i _ d h).1 (by decide)
  · exact absurd (get i _ d h1).1 (by decide)
theorem fd_mk {G : Gx} {k : Nat} {x qual : Str} {st : Stmt} {f : Addr} {fd : FuncData} {Nm ps : List Str} {n : Nat} {body : Ev → Rs Out} (F : Fun G.K x qual st f fd) (Sc : FnScope Nm ps (defScope st)) (b : Binds G.K fd ps []) (hm : G.mg x = some (.ref f)) (hn : ps.length = n) {nn : Nat} (hN : Nm.length = nn) (hb : Dss ⟨G, k, Nm, defScope st, fun _ => true⟩ (defBody st) body) : Fd G (k + 1) x n (fn nn body) := by
  subst hN
  refine ⟨f, fd, ps, ?_, hm, F.kp, b⟩
  refine F.okX Sc (fun vs H Q E h => ?_) (fun cdv A outer s H vs Q E hr h => ?_)
  · obtain ⟨N, ds, h1, _⟩ := h
    rw [h1, hn]
  · obtain ⟨N, ds, h1, hd, t, k⟩ := h
    obtain ⟨u, h2, h3⟩ := hb
    refine ⟨u E, h2 _ E ⟨rfl, rfl, rfl, rfl, rfl, rfl, rfl, rfl, hr, takes_of rfl rfl rfl rfl, passes_of rfl, fun _ _ => rfl⟩, h3 N H N (start Nm vs) H (start0 Nm.length ds) _ E (start_rep hd t) ?_⟩
    unfold fn at k
    cases e1 : body (start0 Nm.length ds) with
    | bad => rw [e1] at k; exact k
    | err c => rw [e1] at k; exact k
    | ok o =>
      rw [e1, Rs.bind_ok] at k
      cases o with
      | nx ρ => exact fun N' σ' H' r' _ => k .non H' r'.base .non
      | ret d => exact fun v H' s' kk => k v H' s' kk
      | brk ρ => exact k.elim
      | cnt ρ => exact k.elim
section
variable {S : Sx} {w : Bool}
def sBad : Ev → Rs Out := fun _ => .bad
theorem ds_never {s : Stmt} : Ds S s sBad := ⟨fun _ => tNever, fun X E c => ps_never, fun B H0 N σ H ρ D E r k => k.elim⟩
theorem ds_par (i j : Nat) {x y : Str} {e e' : Expr} {tk vk : Nat} {px py tp vp pos : Pos} {fs : Ev → Rs (List PyData)} (nd : S.N.Nodup) (h : Da false S [e, e'] fs) (hi : S.N[i]? = some x) (hj : S.N[j]? = some y) (hne : x ≠ y) (hx : S.sc.names.lookup x = some .local) (hy : S.sc.names.lookup y = some .local)
    (hp : ∀ X : Cx, ∀ ta, X.calm = true → X.N.Nodup → X.N[i]? = some x → X.N[j]? = some y → X.env.kindOf x = some .local → X.env.kindOf y = some .local → PA X [e, e'] ta → PS X (.Assign [.Tuple [.Name x px, .Name y py] tk tp] (.Tuple [e, e'] vk vp) pos) (tPar i j ta)) : Ds S (.Assign [.Tuple [.Name x px, .Name y py] tk tp] (.Tuple [e, e'] vk vp) pos) (sPar i j fs) := by
  obtain ⟨t, h1, h2, _⟩ := h
  refine ⟨fun E => tPar i j (t E), fun X E c => hp X _ c.calm (by rw [c.N]; exact nd) (n_of c hi) (n_of c hj) (by show X.env.scope.names.lookup x = _; rw [c.sc]; exact hx) (by show X.env.scope.names.lookup y = _; rw [c.sc]; exact hy) (h1 X E c), fun B H0 N σ H ρ D E r k => h2 B H0 N σ H ρ _ E r ?_⟩
  unfold sPar at k
  cases e1 : fs ρ with
  | bad => rw [e1] at k; exact k
  | err c => rw [e1] at k; exact ES.err r.base k
  | ok ds =>
    rw [e1, Rs.bind_ok] at k
    intro vs H1 s1 k1
    split at k
    · rename_i d e
      obtain ⟨v, u, rfl, hx', hy'⟩ := pd2 k1
      exact ⟨v, u, rfl, k N _ H1 (((r.same s1).set i hx').set j hy') (.same s1)⟩
    · exact k.elim
end
/-- the class by its name -/
def clsOf (mg : Str → Option Value) (x : Str) : Addr := match mg x with
  | some (.ref a) => a
  | _ => 0
theorem errD_mk {P : Program} {w : World} {K : PySem.W.Frag} {mg : Str → Option Value} {base : Heap} {x : Str} {C : Addr} (g : mg x = some (.ref C)) (k : PySem.W.keepIn K (.ref C) = true) (b : PySem.W.subIn K (.ref C) (.type "BaseException") = some true) (t : PySem.W.typeIn K (.ref C) = some (.type "type")) (e : PySem.W.excIn K C [.type "ValueError", .type "Exception", .type "BaseException", .type "object"] "ValueError.__new__" = true) : ErrD ⟨P, w, K, mg, base, clsOf mg⟩ x := by
  have h : clsOf mg x = C := by unfold clsOf; rw [g]
  refine ⟨?_, ?_, ?_, ?_, ?_⟩
  · show mg x = some (.ref (clsOf mg x)); rw [h]; exact g
  · show PySem.W.keepIn K (.ref (clsOf mg x)) = true; rw [h]; exact k
  · show PySem.W.subIn K (.ref (clsOf mg x)) _ = _; rw [h]; exact b
  · show PySem.W.typeIn K (.ref (clsOf mg x)) = _; rw [h]; exact t
  · show PySem.W.excIn K (clsOf mg x) _ _ = _; rw [h]; exact e
/-- the law's own def -/
theorem fd_fn {G : Gx} {k : Nat} {x qual : Str} {st : Stmt} {f : Addr} {fd : FuncData} {Nm ps : List Str} {n : Nat} {body : Ev → Rs Out} (F : Fun G.K x qual st f fd) (Sc : FnScope Nm ps (defScope st)) (hn : ps.length = n) {nn : Nat} (hN : Nm.length = nn) (hb : Dss ⟨G, k, Nm, defScope st, fun _ => true⟩ (defBody st) body) : FnOk G.P G.w G.K G.mg G.base (L2.CX G.P G.w) (k + 1) f fd ps (spD G.K G.cls n (fn nn body)) := by
  subst hN
  refine F.okX Sc (fun vs H Q E h => ?_) (fun cdv A outer s H vs Q E hr h => ?_)
  · obtain ⟨N, ds, h1, _⟩ := h
    rw [h1, hn]
  · obtain ⟨N, ds, h1, hd, t, k⟩ := h
    obtain ⟨u, h2, h3⟩ := hb
    refine ⟨u E, h2 _ E ⟨rfl, rfl, rfl, rfl, rfl, rfl, rfl, rfl, hr, takes_of rfl rfl rfl rfl, passes_of rfl, fun _ _ => rfl⟩, h3 N H N (L2.start Nm vs) H (start0 Nm.length ds) _ E (start_rep hd t) ?_⟩
    unfold fn at k
    cases e1 : body (start0 Nm.length ds) with
    | bad => rw [e1] at k; exact k
    | err c => rw [e1] at k; exact k
    | ok o =>
      rw [e1, Rs.bind_ok] at k
      cases o with
      | nx ρ => exact fun N' σ' H' r' _ => k .non H' r'.base .non
      | ret d => exact fun v H' s' kk => k v H' s' kk
      | brk ρ => exact k.elim
      | cnt ρ => exact k.elim
/-- the law's promise -/
def spLawD (K : PySem.W.Frag) : Sp := fun vs H Q _ => ∃ (a : Addr) (ns : List Int), vs = [.ref a] ∧ ns.length ≤ 63 ∧ SqL K H a (ns.map V.int) ∧ ∀ H', Q (.bl true) H'
theorem law_imp {K : PySem.W.Frag} {cls : Str → Addr} {F : List PyData → Rs PyData} (h : ∀ ns : List Int, ns.length ≤ 63 → F [scrD (ns.map PyData.int)] = .ok (.bool true)) : ∀ vs H Q E, spLawD K vs H Q E → spD K cls 1 F vs H Q E := by
  intro vs H Q E ⟨a, ns, e, hl, hs, q⟩
  subst e
  refine ⟨fun _ => False, [scrD (ns.map PyData.int)], rfl, .cons (.scr ?_ (DdAll.ints ns)) .nil, fun _ z => z.elim, ?_⟩
  · rcases hs with hs | hs
    · exact .inl ⟨hs, id⟩
    · exact .inr hs
  · rw [h ns hl]
    intro v H' _ k
    cases k
    exact q H'
theorem cx_false {P : Program} {w : World} (H : Hp) (s : Shared) (e : Value) (s' : Shared) (h : L2.CX P w [] H s (fun _ _ _ => False) e s') : False := by
  obtain ⟨_, _, _, _, _, _, _, _, _, _, _, _, z⟩ := h
  exact z.elim
section
variable {S : Sx} {vs vs1 : List Nat}
/-! ### comprehensions with two fors -/
def bd2 (vs1 : List Nat) (g : PyData → Ev → Rs Ev) (tt : Ev → Rs Bool) (it1 : Ev → Rs (List PyData)) (g1 : PyData → Ev → Rs Ev) (tt1 : Ev → Rs Bool) (fe : Ev → Rs PyData) (ρ : Ev) (d : PyData) : Rs (List PyData) := (g d ρ).bind fun ρ1 => (tt ρ1).bind fun b => if b = true then (it1 ρ1).bind fun es => lcAll (bd1 g1 tt1 fe (wipeE ρ1 vs1)) es else .ok []
noncomputable def lLc2 (vs vs1 : List Nat) (it : Ev → Rs (List PyData)) (g : PyData → Ev → Rs Ev) (tt : Ev → Rs Bool) (it1 : Ev → Rs (List PyData)) (g1 : PyData → Ev → Rs Ev) (tt1 : Ev → Rs Bool) (fe : Ev → Rs PyData) : Ev → Rs (List PyData) := fun ρ => (it ρ).bind fun ds => cap (lcAll (bd2 vs1 g tt it1 g1 tt1 fe (wipeE ρ vs)) ds)
theorem wipe_wipe (σ : L2.St) (vs : List Nat) : wipe (wipe σ vs) vs = wipe σ vs := by
  refine List.ext_getElem? fun j => ?_
  rw [wipe_get, wipe_get, wipe_length]
  by_cases hj : j ∈ vs
  · rw [if_pos hj, if_pos hj]
  · rw [if_neg hj, if_neg hj]
theorem LcSt.move {K : PySem.W.Frag} {N : Addr → Prop} {D : Addr} {Hs H1 H2 : Hp} {acc : List V} {accD : List PyData} (s : SameX D Hs H1) (st : LcSt K N D H1 H2 acc accD) : LcSt K N D Hs H2 acc accD := ⟨s.trans st.s, st.d, st.a⟩
theorem bd2_run {B : Addr → Prop} {H0 : Hp} {N : Addr → Prop} {σ : L2.St} {ρ : Ev} {D : Addr} {Hs : Hp} {acc0 : List V} {g g1 : PyData → Ev → Rs Ev} {tt tt1 : Ev → Rs Bool} {it1 : Ev → Rs (List PyData)} {fe : Ev → Rs PyData} {tg tg1 : TG} {t t1 : TT} {ti1 : TI} {te : TE}
    (rp : Rep S.K B H0 N σ Hs ρ) (nD : N D) (h0 : H0 D = none) (bD : B D) (e0 : Hs D = some (.lst acc0))
    (hg : ∀ B H0 N σ H ρ v d Q, Rep S.K B H0 N σ H ρ → Dd S.K N H v d → EG S.K B H0 N H vs σ Q (g d ρ) → tg v σ H Q)
    (ht : ∀ B H0 N σ H ρ Q, Rep S.K B H0 N σ H ρ → ET S H Q E0 (tt ρ) → t σ H Q)
    (hi : ∀ B H0 N σ H ρ R, Rep S.K B H0 N σ H ρ → EI (JOk S.K) S N H R E0 (it1 ρ) → ti1 σ H R)
    (hg1 : ∀ B H0 N σ H ρ v d Q, Rep S.K B H0 N σ H ρ → Dd S.K N H v d → EG S.K B H0 N H vs1 σ Q (g1 d ρ) → tg1 v σ H Q)
    (ht1 : ∀ B H0 N σ H ρ Q, Rep S.K B H0 N σ H ρ → ET S H Q E0 (tt1 ρ) → t1 σ H Q)
    (he : ∀ B H0 N σ H ρ Q, Rep S.K B H0 N σ H ρ → EE false S N H Q E0 (fe ρ) → te σ H Q) :
    ∀ d v H acc accD q, LcSt S.K N D Hs H acc accD → Dd S.K N H v d → bd2 vs1 g tt it1 g1 tt1 fe ρ d = .ok q → (accD ++ q).length ≤ lim → ∀ Nx : Hp → Prop, (∀ H' acc', LcSt S.K N D Hs H' acc' (accD ++ q) → Nx H') →
      tg v σ H fun σ2 H2 => wipe σ2 vs = wipe σ vs ∧ t σ2 H2 fun b H3 => if b = true then ti1 σ2 H3 fun J1 H4 => ∃ W1 : Nat → Nat → Hp → Prop, (∃ m, W1 0 m H4) ∧ ∀ j k H, W1 j k H →
        (J1.stop j H ∧ Nx H) ∨ (J1.go j H ∧ ∃ Nx1 : Hp → Prop, (∀ H', Nx1 H' → ∃ k', k' < k ∧ W1 (j + 1) k' H') ∧ ∀ x H', J1.yld j H x H' → tg1 x (wipe σ2 vs1) H' fun σ3 H5 => wipe σ3 vs1 = wipe σ2 vs1 ∧ t1 σ3 H5 fun b H6 =>
          if b = true then te σ3 H6 fun y H7 => ∃ acc, H7 D = some (.lst acc) ∧ acc.length < sizeLine ∧ Nx1 (upd H7 D (.lst (acc ++ [y]))) else Nx1 H6) else Nx H3 := by
  intro d v H acc accD q st hvd hbd hl Nx hN
  have rp1 : Rep S.K B H0 N σ H ρ := rp.moveX st.s nD e0 st.d h0 bD
  refine hg B H0 N σ H ρ v d _ rp1 hvd ?_
  unfold bd2 at hbd
  cases e1 : g d ρ with
  | bad => rw [e1] at hbd; cases hbd
  | err c => rw [e1] at hbd; cases hbd
  | ok ρ1 =>
    rw [e1, Rs.bind_ok] at hbd
    intro σ1 r1 w1
    refine ⟨w1, ht B H0 N σ1 H ρ1 _ r1 ?_⟩
    cases e2 : tt ρ1 with
    | bad => rw [e2] at hbd; cases hbd
    | err c => rw [e2] at hbd; cases hbd
    | ok b =>
      rw [e2, Rs.bind_ok] at hbd
      intro H3 s3
      cases b with
      | false =>
        rw [if_neg Bool.false_ne_true] at hbd ⊢
        cases hbd
        exact hN H3 acc ⟨st.s.trans (.of s3), s3 _ _ st.d, by rw [List.append_nil]; exact st.a.same s3⟩
      | true =>
        rw [if_pos rfl] at hbd ⊢
        have r3 := r1.same s3
        refine hi B H0 N σ1 H3 ρ1 _ r3 ?_
        cases e3 : it1 ρ1 with
        | bad => rw [e3] at hbd; cases hbd
        | err c => rw [e3] at hbd; cases hbd
        | ok es =>
          rw [e3, Rs.bind_ok] at hbd
          intro J1 H4 s4 hj
          have s34 := s3.trans s4
          have st4 : LcSt S.K N D H4 H4 acc accD := ⟨fun _ _ _ e => e, s34 _ _ st.d, st.a.same s34⟩
          have sx : SameX D Hs H4 := st.s.trans (.of s34)
          have r4 := r3.same s4
          obtain ⟨Sr, j1, j2, j3, j4⟩ := hj.h
          have hb1 := bd1_run (S := S) (vs := vs1) (g := g1) (tt := tt1) (fe := fe) (tg := tg1) (t := t1) (te := te) (r4.wipe vs1) nD h0 bD st4.d hg1 ht1 he
          rw [wipe_wipe] at hb1
          refine lc_loop (K := S.K) (N := N) (bd := bd1 g1 tt1 fe (wipeE ρ1 vs1)) st4 hbd hl (fun H' acc' accD' st' => ?_) hb1 (fun H' acc' st' => hN H' acc' (LcSt.move sx st'))
          have kx : KeepF N H4 N H' := keep_x st'.s nD st4.d
          have sr := j2 _ _ _ _ j1 kx
          exact ⟨fun i d e => j3 N H' i d sr e, j4 N H' sr⟩
end
section
variable {S : Sx} {vs vs1 : List Nat}
theorem lc2_run {tg iter tg1 iter1 elt : Expr} {ifs ifs1 : List Expr} {scope : Scope} {it it1 : Ev → Rs (List PyData)} {g g1 : PyData → Ev → Rs Ev} {tt tt1 : Ev → Rs Bool} {fe : Ev → Rs PyData} (hi : DiW S tg iter it) (hg : Dx vs (S.at scope) tg g) (ht : Dts (S.at scope) ifs tt) (hi1 : Di (S.at scope) tg1 iter1 it1) (hg1 : Dx vs1 (S.at scope) tg1 g1) (ht1 : Dts (S.at scope) ifs1 tt1) (he : De false (S.at scope) elt fe) :
    ∃ (ti : XK → TI) (tgt : TG) (t : TT) (ti1 : TI) (tgt1 : TG) (t1 : TT) (te : TE), (∀ X E, Cs S X E → PI X tg iter (ti E) ∧ (∀ s H C cl fp, PG (X.blk s H scope (compEnvC scope cl C X.env) fp) tg tgt) ∧ (∀ s H C cl fp, PTs (X.blk s H scope (compEnvC scope cl C X.env) fp) ifs t) ∧ (∀ s H C cl fp, PI (X.blk s H scope (compEnvC scope cl C X.env) fp) tg1 iter1 ti1) ∧ (∀ s H C cl fp, PG (X.blk s H scope (compEnvC scope cl C X.env) fp) tg1 tgt1) ∧ (∀ s H C cl fp, PTs (X.blk s H scope (compEnvC scope cl C X.env) fp) ifs1 t1) ∧ ∀ s H C cl fp, PE (X.blk s H scope (compEnvC scope cl C X.env) fp) elt te) ∧
      ∀ B H0 N σ H ρ Q E, Rep S.K B H0 N σ H ρ → EF S N H Q E (lLc2 vs vs1 it g tt it1 g1 tt1 fe ρ) → tLc2 (ti E) tgt t ti1 tgt1 t1 te vs vs1 σ H Q := by
  obtain ⟨ti, h1, h2⟩ := hi
  obtain ⟨tgt, h3, h4⟩ := hg
  obtain ⟨t, h5, h6⟩ := ht
  obtain ⟨ti1, h9, h10⟩ := hi1
  obtain ⟨tgt1, h11, h12⟩ := hg1
  obtain ⟨t1, h13, h14⟩ := ht1
  obtain ⟨te, h7, h8⟩ := he
  refine ⟨ti, tgt, t E0, ti1 E0, tgt1, t1 E0, te E0, fun X E c => ⟨h1 X E c, fun s H C cl fp => h3 _ _ (cs_blk c s H scope cl C fp), fun s H C cl fp => h5 _ _ (cs_blk c s H scope cl C fp), fun s H C cl fp => h9 _ _ (cs_blk c s H scope cl C fp), fun s H C cl fp => h11 _ _ (cs_blk c s H scope cl C fp), fun s H C cl fp => h13 _ _ (cs_blk c s H scope cl C fp), fun s H C cl fp => h7 _ _ (cs_blk c s H scope cl C fp)⟩, fun B H0 N σ H ρ Q E rp k => ?_⟩
  refine h2 B H0 N σ H ρ _ E rp ?_
  unfold lLc2 at k
  cases e1 : it ρ with
  | bad => rw [e1] at k; exact k
  | err c => rw [e1] at k; exact k
  | ok ds =>
    rw [e1, Rs.bind_ok] at k
    intro J H1 s1 hj D hD
    have rp1 := rp.same s1
    cases e2 : cap (lcAll (bd2 vs1 g tt it1 g1 tt1 fe (wipeE ρ vs)) ds) with
    | bad => rw [e2] at k; exact k.elim
    | err c =>
      unfold cap at e2
      split at e2
      · split at e2 <;> cases e2
      · cases e2
    | ok r =>
      rw [e2] at k
      obtain ⟨hr, hl⟩ := cap_ok e2
      have rpD : Rep S.K (fun a => B a ∨ a = D) H0 (fun a => N a ∨ a = D) σ (upd H1 D (.lst [])) ρ := rp1.enterB (same_upd hD) hD (by rw [upd_same]; exact fun z => by cases z)
      have h0 : H0 D = none := rp1.base.free hD
      have kn : KeepF N H1 (fun a => N a ∨ a = D) (upd H1 D (.lst [])) := keep_new hD
      have hb := bd2_run (S := S) (vs := vs) (vs1 := vs1) (g := g) (tt := tt) (it1 := it1) (g1 := g1) (tt1 := tt1) (fe := fe) (tg := tgt) (t := t E0) (ti1 := ti1 E0) (tg1 := tgt1) (t1 := t1 E0) (te := te E0) (rpD.wipe vs) (.inr rfl) h0 (.inr rfl) upd_same (fun B H0 N σ H ρ v d Q => h4 B H0 N σ H ρ v d Q) (fun B H0 N σ H ρ Q => h6 B H0 N σ H ρ Q E0) (fun B H0 N σ H ρ Q => h10 B H0 N σ H ρ Q E0) (fun B H0 N σ H ρ v d Q => h12 B H0 N σ H ρ v d Q) (fun B H0 N σ H ρ Q => h14 B H0 N σ H ρ Q E0) (fun B H0 N σ H ρ Q => h8 B H0 N σ H ρ Q E0)
      rw [wipe_wipe] at hb
      refine lc_loop (K := S.K) (N := fun a => N a ∨ a = D) (acc0 := []) (acc0D := []) (bd := bd2 vs1 g tt it1 g1 tt1 fe (wipeE ρ vs)) ⟨fun _ _ _ e => e, upd_same, .nil⟩ hr hl (fun H' acc accD st => ?_) hb (fun H' acc st => ?_)
      · have kx : KeepF (fun a => N a ∨ a = D) (upd H1 D (.lst [])) (fun a => N a ∨ a = D) H' := keep_x st.s (.inr rfl) upd_same
        have sm : Same H1 H' := fun a o e => st.s a o (ne_of_none e hD) (same_upd hD a o e)
        exact ⟨fun i d e => hj.go _ H' i d sm (kn.trans kx) e, hj.stop _ H' sm (kn.trans kx)⟩
      · rw [List.nil_append] at st
        exact k D acc H' (s1.trans fun a o e => st.s a o (ne_of_none e hD) (same_upd hD a o e)) (s1.free hD) st.d st.a
theorem df_lc2 {elt tg iter tg1 iter1 : Expr} {ifs ifs1 : List Expr} {scope : Scope} {own : List (Str × Nat)} {pos : Pos} {it it1 : Ev → Rs (List PyData)} {g g1 : PyData → Ev → Rs Ev} {tt tt1 : Ev → Rs Bool} {fe : Ev → Rs PyData} (nd : S.N.Nodup) (ok : BlkOk S.N S.sc scope own) (hv : ∀ i ∈ vs1, i ∈ own.map (·.2)) (hi : DiW S tg iter it) (hg : Dx (own.map (·.2)) (S.at scope) tg g) (ht : Dts (S.at scope) ifs tt) (hi1 : Di (S.at scope) tg1 iter1 it1) (hg1 : Dx vs1 (S.at scope) tg1 g1) (ht1 : Dts (S.at scope) ifs1 tt1) (he : De false (S.at scope) elt fe) (hs : ∀ env x, foldedSetIterable iter env x = pure x := by intro _ _; rfl) (hs1 : ∀ env x, foldedSetIterable iter1 env x = pure x := by intro _ _; rfl) : Df S (.ListComp elt [⟨tg, iter, ifs, 0⟩, ⟨tg1, iter1, ifs1, 0⟩] scope pos) (lLc2 (own.map (·.2)) vs1 it g tt it1 g1 tt1 fe) := by
  obtain ⟨ti, tgt, t, ti1, tgt1, t1, te, h1, h2⟩ := lc2_run hi hg ht hi1 hg1 ht1 he
  exact ⟨fun E => tLc2 (ti E) tgt t ti1 tgt1 t1 te (own.map (·.2)) vs1, fun X E c => let ⟨q1, q2, q3, q4, q5, q6, q7⟩ := h1 X E c; pe_lc2 c.calm (by rw [c.N]; exact nd) q1 (by rw [c.N, c.sc]; exact ok) hv q2 q3 q4 q5 q6 q7 (hs _) hs1, h2⟩
theorem setLc2_ps {i : Nat} {y : Str} {py : Pos} {elt tg iter tg1 iter1 : Expr} {ifs ifs1 : List Expr} {scope : Scope} {own : List (Str × Nat)} {pos spos : Pos} {ti ti1 : TI} {tgt tgt1 : TG} {t t1 : TT} {te : TE} {X : Cx} {E : XK} (c : Cs S X E) (nd : S.N.Nodup) (ok : BlkOk S.N S.sc scope own) (hv : ∀ i ∈ vs1, i ∈ own.map (·.2)) (hi : S.N[i]? = some y) (hx : S.sc.names.lookup y = some .local) (hk : S.sc.kind = .function) (hl : (py.line == pos.line) = true) (ha : (scope.names.any fun (n, k) => n == y && (k == .local || k == .cell)) = false)
    (q : PI X tg iter ti ∧ (∀ s H C cl fp, PG (X.blk s H scope (compEnvC scope cl C X.env) fp) tg tgt) ∧ (∀ s H C cl fp, PTs (X.blk s H scope (compEnvC scope cl C X.env) fp) ifs t) ∧ (∀ s H C cl fp, PI (X.blk s H scope (compEnvC scope cl C X.env) fp) tg1 iter1 ti1) ∧ (∀ s H C cl fp, PG (X.blk s H scope (compEnvC scope cl C X.env) fp) tg1 tgt1) ∧ (∀ s H C cl fp, PTs (X.blk s H scope (compEnvC scope cl C X.env) fp) ifs1 t1) ∧ ∀ s H C cl fp, PE (X.blk s H scope (compEnvC scope cl C X.env) fp) elt te) (hs : ∀ env x, foldedSetIterable iter env x = pure x) (hs1 : ∀ env x, foldedSetIterable iter1 env x = pure x) :
    PS X (.Assign [.Name y py] (.ListComp elt [⟨tg, iter, ifs, 0⟩, ⟨tg1, iter1, ifs1, 0⟩] scope pos) spos) (tAsg (tLc2 ti tgt t ti1 tgt1 t1 te (own.map (·.2)) vs1) (gName i)) :=
  ps_setLc2 c.calm (by rw [c.N]; exact nd) (n_of c hi) (by rw [c.sc]; exact hx) (sw_true (by rw [c.sc]; exact hk) (by rw [c.sc]; exact hx) hl ha) q.1 (by rw [c.N, c.sc]; exact ok) hv q.2.1 q.2.2.1 q.2.2.2.1 q.2.2.2.2.1 q.2.2.2.2.2.1 q.2.2.2.2.2.2 (hs _) hs1
theorem ds_setLc2 (i : Nat) {y : Str} {py : Pos} {elt tg iter tg1 iter1 : Expr} {ifs ifs1 : List Expr} {scope : Scope} {own : List (Str × Nat)} {pos spos : Pos} {it it1 : Ev → Rs (List PyData)} {g g1 : PyData → Ev → Rs Ev} {tt tt1 : Ev → Rs Bool} {fe : Ev → Rs PyData} (nd : S.N.Nodup) (ok : BlkOk S.N S.sc scope own) (hv : ∀ i ∈ vs1, i ∈ own.map (·.2)) (hi : DiW S tg iter it) (hg : Dx (own.map (·.2)) (S.at scope) tg g) (ht : Dts (S.at scope) ifs tt) (hi1 : Di (S.at scope) tg1 iter1 it1) (hg1 : Dx vs1 (S.at scope) tg1 g1) (ht1 : Dts (S.at scope) ifs1 tt1) (he : De false (S.at scope) elt fe)
    (ha : (scope.names.any fun (n, k) => n == y && (k == .local || k == .cell)) = false) (hN : S.N[i]? = some y := by rfl) (hx : S.sc.names.lookup y = some .local := by rfl) (hk : S.sc.kind = .function := by rfl) (hl : (py.line == pos.line) = true := by rfl) (hs : ∀ env x, foldedSetIterable iter env x = pure x := by intro _ _; rfl) (hs1 : ∀ env x, foldedSetIterable iter1 env x = pure x := by intro _ _; rfl) : Ds S (.Assign [.Name y py] (.ListComp elt [⟨tg, iter, ifs, 0⟩, ⟨tg1, iter1, ifs1, 0⟩] scope pos) spos) (sSet i (eL (lLc2 (own.map (·.2)) vs1 it g tt it1 g1 tt1 fe))) := by
  obtain ⟨ti, tgt, t, ti1, tgt1, t1, te, h1, h2⟩ := lc2_run hi hg ht hi1 hg1 ht1 he
  refine ⟨fun E => tAsg (tLc2 (ti E) tgt t ti1 tgt1 t1 te (own.map (·.2)) vs1) (gName i), fun X E c => setLc2_ps c nd ok hv hN hx hk hl ha (h1 X E c) hs hs1, fun B H0 N σ H ρ D E r k => set_end r (fun Q q => h2 B H0 N σ H ρ Q E r ?_) k⟩
  unfold eL at q
  cases e1 : lLc2 (own.map (·.2)) vs1 it g tt it1 g1 tt1 fe ρ with
  | bad => rw [e1] at q; exact q
  | err c => rw [e1] at q; exact q
  | ok ds =>
    rw [e1] at q
    exact fun p xs H' s hp hl hd => q _ H' s (.lst hl (new_of r.told hp) (hd.keep (.weak fun _ z => .inl z)))
theorem ds_setLc2O (i : Nat) {y : Str} {py : Pos} {elt tg iter tg1 iter1 : Expr} {ifs ifs1 : List Expr} {scope : Scope} {own : List (Str × Nat)} {pos spos : Pos} {it it1 : Ev → Rs (List PyData)} {g g1 : PyData → Ev → Rs Ev} {tt tt1 : Ev → Rs Bool} {fe : Ev → Rs PyData} (nd : S.N.Nodup) (ok : BlkOk S.N S.sc scope own) (hv : ∀ i ∈ vs1, i ∈ own.map (·.2)) (hi : DiW S tg iter it) (hg : Dx (own.map (·.2)) (S.at scope) tg g) (ht : Dts (S.at scope) ifs tt) (hi1 : Di (S.at scope) tg1 iter1 it1) (hg1 : Dx vs1 (S.at scope) tg1 g1) (ht1 : Dts (S.at scope) ifs1 tt1) (he : De false (S.at scope) elt fe)
    (ha : (scope.names.any fun (n, k) => n == y && (k == .local || k == .cell)) = false) (hN : S.N[i]? = some y := by rfl) (hx : S.sc.names.lookup y = some .local := by rfl) (hk : S.sc.kind = .function := by rfl) (hl : (py.line == pos.line) = true := by rfl) (hs : ∀ env x, foldedSetIterable iter env x = pure x := by intro _ _; rfl) (hs1 : ∀ env x, foldedSetIterable iter1 env x = pure x := by intro _ _; rfl) : Ds S (.Assign [.Name y py] (.ListComp elt [⟨tg, iter, ifs, 0⟩, ⟨tg1, iter1, ifs1, 0⟩] scope pos) spos) (sSetO i (lLc2 (own.map (·.2)) vs1 it g tt it1 g1 tt1 fe)) := by
  obtain ⟨ti, tgt, t, ti1, tgt1, t1, te, h1, h2⟩ := lc2_run hi hg ht hi1 hg1 ht1 he
  exact ⟨fun E => tAsg (tLc2 (ti E) tgt t ti1 tgt1 t1 te (own.map (·.2)) vs1) (gName i), fun X E c => setLc2_ps c nd ok hv hN hx hk hl ha (h1 X E c) hs hs1, fun B H0 N σ H ρ D E r k => setO_end r (fun Q q => h2 B H0 N σ H ρ Q E r q) k⟩
end
section
variable {S : Sx} {w : Bool}
/-! ### a method of a list that changes nothing -/
/-- o.name(e ..), o a list -/
def eMt (g : List PyData → List PyData → Rs PyData) (fo : Ev → Rs PyData) (fs : Ev → Rs (List PyData)) : Ev → Rs PyData := fun ρ => (fo ρ).bind fun
  | .list ds => (fs ρ).bind fun as => g ds as
  | _ => .bad
def MtD (S : Sx) (w : Bool) (r : V → List V → Hp → VK → Prop) (g : List PyData → List PyData → Rs PyData) : Prop := ∀ N H x ds vs as Q E, Told N H → Dw S.K N H x (.list ds) → Paired (Dw S.K N H) vs as → EE w S N H Q E (g ds as) → r x vs H Q
theorem de_mtL {o e : Expr} {es : List Expr} {name : Str} {id : String} {apos cpos : Pos} {g : List PyData → List PyData → Rs PyData} {fo : Ev → Rs PyData} {fs : Ev → Rs (List PyData)} {r : V → List V → Hp → VK → Prop} (slot : Slot "list" name id) (hty : typeOf (.builtin id) = pure (.type "method_descriptor")) (hr : ∀ X E, Cs S X E → MtR X id r) (hm : MtD S w r g)
    (ho : De true S o fo) (ha : Da true S (e :: es) fs)
    (hbase : ∀ env, attributeBase o name env (eval o env) = eval o env)
    (hfew : ∀ env, ((backTo cpos (starEach (e :: es) env)).all (fun x => !x.1) && (backToKw cpos (keywordEach [] env)).all (fun x => x.1.isSome) && decide ((e :: es).length + ([] : List Keyword).length + (if ([] : List Keyword).isEmpty then 0 else 1) < 30)) = true) (hline : (apos.endLine == cpos.line) = true) (hs : ∀ env, starEach (e :: es) env = (false, eval e env) :: starEach es env) (hpl : ∀ env, (backTo cpos (starEach es env)).any (·.1) = false) :
    De w S (.Call (.Attribute o name apos) (e :: es) [] cpos) (eMt g fo fs) := by
  obtain ⟨t, h1, h2⟩ := ho
  obtain ⟨u, h3, h4, _⟩ := ha
  refine ⟨fun E => tBM S.K "list" r (t E) (u E), fun X E c => by
    rw [← c.K]
    exact pe_bm PySem.F.plainAttrs_list slot hty (hr X E c) (h1 X E c) (h3 X E c) (hbase _) (hfew _) hline (hs _) (hpl _), fun B H0 N σ H ρ Q E rp k => h2 B H0 N σ H ρ _ E rp ?_⟩
  unfold eMt at k
  cases e1 : fo ρ with
  | bad => rw [e1] at k; exact k
  | err c => rw [e1] at k; exact k
  | ok d =>
    rw [e1, Rs.bind_ok] at k
    intro v H1 s1 k1
    split at k
    · obtain ⟨a, xs, rfl, ea, _⟩ := Dw.lst k1
      refine ⟨.inl ⟨rfl, xs, SqL.of ea⟩, h4 B H0 N σ H1 ρ _ E (rp.same s1) ?_⟩
      cases e2 : fs ρ with
      | bad => rw [e2] at k; exact k
      | err c => rw [e2] at k; exact fun H' s' => k H' (s1.trans s')
      | ok as =>
        rw [e2, Rs.bind_ok] at k
        intro vs H2 s2 k2
        exact hm N H2 _ _ _ _ _ E ((rp.same s1).same s2).told (DW.same (w := true) k1 s2) (pd_w k2) (k.from (s1.trans s2))
    · exact k.elim
/-- the first place of an equal one -/
def idxD : List PyData → PyData → Option Nat
  | [], _ => none
  | z :: zs, d => if PyData.eqv z d = true then some 0 else (idxD zs d).map (· + 1)
theorem idxD_some : ∀ {ds : List PyData} {d : PyData} {j : Nat}, idxD ds d = some j → (∃ z, ds[j]? = some z ∧ PyData.eqv z d = true) ∧ ∀ (m : Nat) (z' : PyData), m < j → ds[m]? = some z' → PyData.eqv z' d = false
  | [], d, j, h => by cases h
  | z :: zs, d, j, h => by
    unfold idxD at h
    split at h
    · rename_i hz
      cases h
      exact ⟨⟨z, rfl, hz⟩, fun m z' hm => absurd hm (Nat.not_lt_zero _)⟩
    · rename_i hz
      cases q : idxD zs d with
      | none => rw [q] at h; cases h
      | some i =>
        rw [q] at h
        cases h
        obtain ⟨⟨y, e1, e2⟩, h2⟩ := idxD_some q
        refine ⟨⟨y, e1, e2⟩, fun m z' hm e => ?_⟩
        cases m with
        | zero => cases e; exact Bool.eq_false_iff.mpr hz
        | succ m => exact h2 m z' (Nat.lt_of_succ_lt_succ hm) e
noncomputable def indexD (ds : List PyData) (as : List PyData) : Rs PyData := match as with
  | [x] => @ite _ ((SeqAt.shaped (.list ds) && SeqAt.shaped x) = true) (Classical.propDecidable _) (match idxD ds x with | some j => .ok (.int (j : Int)) | none => .bad) .bad
  | _ => .bad
theorem mtD_index : MtD S w (rIndexD S.K) indexD := by
  intro N H x ds vs as Q E tl hx hv k
  unfold indexD at k
  split at k
  · rename_i y
    by_cases hc : (SeqAt.shaped (.list ds) && SeqAt.shaped y) = true
    · rw [if_pos hc] at k
      have h1 := (Bool.and_eq_true_iff.mp hc).1
      have h2 := (Bool.and_eq_true_iff.mp hc).2
      cases q : idxD ds y with
      | none => rw [q] at k; exact k.elim
      | some j =>
        rw [q] at k
        obtain ⟨⟨z, e1, e2⟩, h3⟩ := idxD_some q
        obtain ⟨v, rfl, hy⟩ := pd1 hv
        obtain ⟨a, xs, rfl, ea, _⟩ := Dw.lst hx
        exact ⟨a, v, y, ds, j, z, rfl, rfl, hx.dp (shaped_lay h1), hy.dp (shaped_lay h2), h1, h2, e1, e2, h3, k _ H (Same.refl _) (DW.of (.int _))⟩
    · rw [if_neg hc] at k
      exact k.elim
  · exact k.elim
theorem de_index {o e : Expr} {apos cpos : Pos} {fo : Ev → Rs PyData} {fs : Ev → Rs (List PyData)} (ho : De true S o fo) (ha : Da true S [e] fs)
    (hbase : ∀ env, attributeBase o "index" env (eval o env) = eval o env := by intro _; rfl)
    (hfew : ∀ env, ((backTo cpos (starEach [e] env)).all (fun x => !x.1) && (backToKw cpos (keywordEach [] env)).all (fun x => x.1.isSome) && decide ([e].length + ([] : List Keyword).length + (if ([] : List Keyword).isEmpty then 0 else 1) < 30)) = true := by intro _; rfl) (hline : (apos.endLine == cpos.line) = true := by rfl) (hs : ∀ env, starEach [e] env = (false, eval e env) :: starEach [] env := by intro _; rfl) (hpl : ∀ env, (backTo cpos (starEach [] env)).any (·.1) = false := by intro _; rfl) :
    De w S (.Call (.Attribute o "index" apos) [e] [] cpos) (eMt indexD fo fs) :=
  de_mtL PySem.F.slot_list_index PySem.F.type_list_index (fun X E c => by rw [← c.K]; exact mt_indexD (by have := c.room.un; omega)) mtD_index ho ha hbase hfew hline hs hpl
/-! ### reverse -/
def revM (ds as : List PyData) : Rs (List PyData) := match as with
  | [] => .ok ds.reverse
  | _ => .bad
theorem ds_reverse (i : Nat) {x : Str} {xp apos cpos pos : Pos} (hi : S.N[i]? = some x := by rfl) (hv : Vis S.sc x := by first | exact Or.inl rfl | exact Or.inr (Or.inl rfl) | exact Or.inr (Or.inr rfl)) (hd : (x == ("__debug__" : Str)) = false := by decide) (hcd : (x == ("__classdict__" : Str)) = false := by decide) (hline : (apos.endLine == cpos.line) = true := by rfl) :
    Ds S (.Expr (.Call (.Attribute (.Name x xp) "reverse" apos) [] [] cpos) pos) (sMut i revM aNil) := by
  refine ⟨fun E => tDrop (tBM S.K "list" rReverse (tVar i) tNil), fun X E c => by
    rw [← c.K]
    have h := pe_bm0 (X := X) (apos := apos) (cpos := cpos) PySem.F.plainAttrs_list PySem.F.slot_list_reverse PySem.F.type_list_reverse mt_reverse (pe_var (pos := xp) (n_of c hi) (vis_of c hv) hd hcd) rfl hline
    exact ps_expr h rfl, fun B H0 N σ H ρ D E r k => mut_run (ww := false) (fun N H a xs ds vs as Q ha hd hv ds' hm q => ?_) (fun ds as c h => ?_) r (fs := aNil) (fun H' Q r' q => by
      have q : EA false S N H' Q E (.ok []) := q
      exact q [] H' (Same.refl _) .nil) k⟩
  · unfold revM at hm
    split at hm
    · cases hm
      cases hv
      exact ⟨a, xs, rfl, rfl, ha, q _ _ hd.reverse⟩
    · cases hm
  · unfold revM at h
    split at h <;> cases h
/-! ### sorted, whole numbers -/
theorem sorted_unique : ∀ {a b : List Int}, a.Perm b → a.Pairwise (· ≤ ·) → b.Pairwise (· ≤ ·) → a = b := fun {a b} p ha hb => List.Perm.eq_of_pairwise (le := fun x y => decide (x ≤ y)) (fun x y _ _ h1 h2 => Int.le_antisymm (of_decide_eq_true h1) (of_decide_eq_true h2)) (ha.imp fun h => decide_eq_true h) (hb.imp fun h => decide_eq_true h) p
def sortI (ns : List Int) : List Int := ns.mergeSort
theorem sortI_perm (ns : List Int) : (sortI ns).Perm ns := List.mergeSort_perm ns _
theorem sortI_le (ns : List Int) : (sortI ns).Pairwise (· ≤ ·) := by
  refine (List.pairwise_mergeSort (le := fun (a b : Int) => decide (a ≤ b)) (fun a b c h1 h2 => ?_) (fun a b => ?_) ns).imp fun h => of_decide_eq_true h
  · exact decide_eq_true (Int.le_trans (of_decide_eq_true h1) (of_decide_eq_true h2))
  · rcases Int.le_total a b with h | h
    · simp [h]
    · simp [h]
def lSorted (f : Ev → Rs PyData) : Ev → Rs (List PyData) := fun ρ => (f ρ).bind fun
  | .list ds => match asInts ds with | some ns => .ok ((sortI ns).map PyData.int) | none => .bad
  | _ => .bad
theorem df_sorted {e : Expr} {p pos : Pos} {f : Ev → Rs PyData} (hm : S.mg "sorted" = none) (ha : De true S e f) (hg : Gn S "sorted" := by rfl) (he : ∀ env, starEach [e] env = (false, eval e env) :: starEach [] env := by intro _; rfl) : Df S (.Call (.Name "sorted" p) [e] [] pos) (lSorted f) := by
  obtain ⟨t, h1, h2⟩ := ha
  refine ⟨fun E => tCB (rSortedI S.K) (tCons (t E) tNil), fun X E c => by
    rw [← c.K]
    exact pe_callB cr_sortedI (gl_of c hg) (by rw [c.mg]; exact hm) (by decide +kernel) (pa_cons (h1 X E c) pa_nil (he _)) (by decide) (by decide) (he _) rfl, fun B H0 N σ H ρ Q E rp k => h2 B H0 N σ H ρ _ E rp ?_⟩
  unfold lSorted at k
  cases e1 : f ρ with
  | bad => rw [e1] at k; exact k
  | err c => rw [e1] at k; exact k
  | ok d =>
    rw [e1, Rs.bind_ok] at k
    intro v H1 s1 k1
    replace k1 := DW.w k1
    split at k
    · rename_i ds
      obtain ⟨a, xs, rfl, e1, kk⟩ := k1.lst
      cases q : asInts ds with
      | none => rw [q] at k; exact k.elim
      | some ns =>
        rw [q] at k
        have := dd_ints kk q
        subst this
        refine ⟨a, ns, rfl, SqL.of e1, fun ns' p hp hw hH => ?_⟩
        have : ns' = sortI ns := sorted_unique (hp.trans (sortI_perm ns).symm) hw (sortI_le ns)
        subst this
        exact (EF.from s1 k).new (DdAll.ints _) p hH
    · exact k.elim
end
section
variable {S : Sx} {w : Bool}
/-! ### zip of a tuple and a list -/
def iZipTLD (fs : Ev → Rs (List PyData)) : Ev → Rs (List PyData) := fun ρ => (fs ρ).bind fun
  | [.tuple as, .list bs] => .ok (zipD as bs)
  | _ => .bad
theorem jok_ztl {N : Addr → Prop} {H : Hp} {a b : Addr} {as bs : List PyData} (h : Dd S.K N H (.ref a) (.tuple as)) (h' : Dd S.K N H (.ref b) (.list bs)) : JOk S.K (ItzTL S.K a b) (zipD as bs) N H := by
  refine ⟨fun N H => Dd S.K N H (.ref a) (.tuple as) ∧ Dd S.K N H (.ref b) (.list bs), ⟨h, h'⟩, fun N H N' H' h k => ⟨h.1.keep k, h.2.keep k⟩, fun N H i d h e => ?_, fun N H h => ?_⟩
  · obtain ⟨x, y, hx, hy, rfl⟩ := zipD_get e
    obtain ⟨h, h'⟩ := h
    cases h with
    | tup e1 k1 =>
      cases h' with
      | lst e2 _ k2 =>
        obtain ⟨v, hv, kv⟩ := k1.get hx
        obtain ⟨u, hu, ku⟩ := k2.get hy
        refine ⟨⟨_, _, v, u, e1, SqL.of e2, hv, hu⟩, fun v' H' z => ?_⟩
        obtain ⟨T, x', y', rfl, hT, rfl, z1, z2⟩ := z
        have q1 := z1 _ e1
        have q2 := z2 _ (SqL.of e2)
        rw [hv] at q1
        rw [hu] at q2
        cases q1
        cases q2
        exact ⟨same_upd hT, dd_pair hT kv ku⟩
  · obtain ⟨h, h'⟩ := h
    cases h with
    | tup e1 k1 =>
      cases h' with
      | lst e2 _ k2 => exact ⟨_, _, e1, SqL.of e2, by rw [k1.len, zipD_len]; omega, by rw [k2.len, zipD_len]; omega, by rw [k1.len, k2.len, zipD_len]; omega⟩
theorem di_zipTL {elts : List Expr} {kk : Nat} {tpos : Pos} {e e' : Expr} {p pos : Pos} {fs : Ev → Rs (List PyData)} (hm : S.mg "zip" = none) (h : Da false S [e, e'] fs) (hg : Gn S "zip" := by rfl) (he : ∀ env, starEach [e, e'] env = (false, eval e env) :: starEach [e'] env := by intro _; rfl) (hpl : ∀ env, (backTo pos (starEach [e'] env)).any (·.1) = false := by intro _; rfl) : Di S (.Tuple elts kk tpos) (.Call (.Name "zip" p) [e, e'] [] pos) (iZipTLD fs) := by
  obtain ⟨t, h1, h2, _⟩ := h
  refine ⟨fun E => iZipTL S.K (t E), fun X E c => by rw [← c.K]; exact pi_zipTL (gl_of c hg) (by rw [c.mg]; exact hm) (h1 X E c) (he _) (hpl _), fun B H0 N σ H ρ R E rp k => h2 B H0 N σ H ρ _ E rp ?_⟩
  unfold iZipTLD at k
  cases e1 : fs ρ with
  | bad => rw [e1] at k; exact k
  | err c => rw [e1] at k; exact k
  | ok d =>
    rw [e1, Rs.bind_ok] at k
    intro vs H1 s1 k1
    split at k
    · obtain ⟨v, u, rfl, hx, hy⟩ := pd2 k1
      obtain ⟨a, xs, rfl, e1, _⟩ := Dw.tup (.dd hx)
      obtain ⟨b, ys, rfl, e2⟩ := dd_ref_l hy
      exact ⟨a, b, xs, ys, rfl, e1, SqL.of e2, k _ H1 s1 (jok_ztl hx hy)⟩
    · exact k.elim
/-! ### max of a tuple of ints -/
theorem foldl_max : ∀ (xs : List Int) (x : Int), (xs.map PyData.int).foldl (fun a y => if PySem.W.dataLt a y then y else a) (PyData.int x) = PyData.int (maxI (x :: xs))
  | [], x => rfl
  | y :: xs, x => by
    have hd : PySem.W.dataLt (PyData.int x) (PyData.int y) = decide (x < y) := PySem.W.dataLt_int x y
    show (xs.map PyData.int).foldl _ (if PySem.W.dataLt (PyData.int x) (PyData.int y) = true then PyData.int y else PyData.int x) = _
    rw [hd]
    by_cases h : x < y
    · rw [if_pos (decide_eq_true h), foldl_max xs y]
      congr 1
      show maxI (y :: xs) = max x (maxI (y :: xs))
      have := (maxI_mem (ns := y :: xs) (by simp)).2 y List.mem_cons_self
      omega
    · rw [if_neg (by rw [decide_eq_false h]; exact Bool.false_ne_true), foldl_max xs x]
      congr 1
      show maxI (x :: xs) = max x (maxI (y :: xs))
      cases xs with
      | nil => show x = max x y; omega
      | cons z zs => show max x (maxI (z :: zs)) = max x (max y (maxI (z :: zs))); omega
def rMaxT (K : PySem.W.Frag) : List V → Hp → VK → Prop := fun vs H Q => ∃ (a : Addr) (x : Int) (ns : List Int), vs = [V.ref a] ∧ SqT K H a ((x :: ns).map V.int) ∧ Q (.int (maxI (x :: ns))) H
theorem cr_maxT {X : Cx} (hc : X.calm = true) (hu : X.A.units + 64 < cLine) : CallR X (.builtin "max") (rMaxT X.K) := by
  intro pins s σ H vs us Q I r h
  obtain ⟨a, x, ns, rfl, hs, q⟩ := h
  obtain ⟨its, rv, hl, _⟩ := I.tuple hs
  rw [Vals.ref1 r]
  have hi := rv.ints
  have ra : ∀ {vs : List Value} {xs : List Int}, IntsAre vs xs → ReadsAll s.heap vs (xs.map PyData.int) [] := fun h => by
    induction h with
    | nil => exact .nil
    | cons n t _ ih => exact .cons (as := []) (bs := []) (.int n t) ih
  have al : ∀ (l : List Int) (d : PyData), d ∈ l.map PyData.int → ∃ i, d = .int i := fun l d hd => by
    obtain ⟨i, _, rfl⟩ := List.mem_map.mp hd
    exact ⟨i, rfl⟩
  have dp : ∀ l : List Int, PyData.depthAll (l.map PyData.int) ≤ 1 := fun l => by
    induction l with
    | nil => simp [PyData.depthAll]
    | cons y l ih => simp [PyData.depthAll, PyData.depth]; exact ih
  refine PySem.W.max_tuple_data (vs := its.toArray) (x := .int x) (xs := ns.map PyData.int) (as := []) (I.ok.hd hc) hl (by simpa using ra hi) ⟨fun d hd e he => ?_, fun d hd => ?_⟩ (by have := dp (x :: ns); simp only [List.map_cons] at this; omega) fun i v h' tk bs _ hr hk => ?_
  · obtain ⟨i, rfl⟩ := al (x :: ns) d (by simpa using hd)
    obtain ⟨j, rfl⟩ := al (x :: ns) e (by simpa using he)
    rfl
  · obtain ⟨i, rfl⟩ := al (x :: ns) d (by simpa using hd)
    exact nofun
  · have e : PySem.W.maxD (PyData.int x) (ns.map PyData.int) = PyData.int (maxI (x :: ns)) := foldl_max ns x
    rw [e] at hr
    cases hr with
    | int _ t => exact ⟨.int _, H, I.kept hk, ⟨_, rfl⟩, q⟩
def maxTD : List PyData → Rs PyData
  | [.tuple ds] => match asInts ds with
    | some (x :: ns) => .ok (.int (maxI (x :: ns)))
    | _ => .bad
  | _ => .bad
theorem callD_maxT : CallD S w (rMaxT S.K) maxTD := by
  intro N H vs ds Q E t hv k
  unfold maxTD at k
  split at k
  · split at k
    · rename_i x ns hn
      obtain ⟨v, rfl, hx⟩ := pd1 hv
      obtain ⟨a, xs, rfl, e1, kk⟩ := hx.tup
      exact ⟨a, x, ns, rfl, by rw [← dd_ints kk hn]; exact e1, k _ H (Same.refl _) (.of (.int _))⟩
    · exact k.elim
  · exact k.elim
theorem de_maxT {e : Expr} {p pos : Pos} {fs : Ev → Rs (List PyData)} (hm : S.mg "max" = none) (ha : Da true S [e] fs) (hg : Gn S "max" := by rfl) (he : ∀ env, starEach [e] env = (false, eval e env) :: starEach [] env := by intro _; rfl) : De w S (.Call (.Name "max" p) [e] [] pos) (eCB maxTD fs) :=
  de_callB (id := "max") (fun X E c => by rw [← c.K]; exact cr_maxT c.calm (by have := c.room.un; omega)) callD_maxT hm (by decide +kernel) ha hg (by decide) (by decide) he (by intro _; rfl)
theorem q_maxT (x : Int) (ns : List Int) : maxTD [.tuple ((x :: ns).map PyData.int)] = .ok (.int (maxI (x :: ns))) := by
  show (match asInts ((x :: ns).map PyData.int) with | some (x :: ns) => Rs.ok (PyData.int (maxI (x :: ns))) | _ => .bad) = _
  rw [asInts_map]
/-! ### a, b, .. = a list -/
def gTL (n : Nat) (gs : List PyData → Ev → Rs Ev) : PyData → Ev → Rs Ev
  | .list ds, ρ => if ds.length = n then gs ds ρ else .bad
  | _, _ => .bad
theorem dx_tupL {vs : List Nat} {es : List Expr} {kk : Nat} {pos : Pos} {n : Nat} {gs : List PyData → Ev → Rs Ev} (h : Dxs vs S es gs) (hn : ∀ env, (assignEach es env).length = n := by intro _; rfl) (hst : ∀ env, (assignEach es env).findIdx? (·.1) = none := by intro _; rfl) : Dx vs S (.Tuple es kk pos) (gTL n gs) := by
  obtain ⟨t, h1, h2⟩ := h
  refine ⟨gUnl S.K n t, fun X E c => by rw [← c.K]; exact pg_unl c.calm (h1 X E c) (hn _) (hst _), fun B H0 N σ H ρ v d Q r hd k => ?_⟩
  cases d with
  | list ds =>
    have k : EG S.K B H0 N H vs σ Q (if ds.length = n then gs ds ρ else .bad) := k
    by_cases hl : ds.length = n
    · rw [if_pos hl] at k
      obtain ⟨a, xs, rfl, e1, kk⟩ := Dw.lst (.dd hd)
      exact ⟨a, xs, rfl, SqL.of e1, by rw [kk.len]; exact hl, h2 B H0 N σ H ρ xs ds Q r kk k⟩
    · rw [if_neg hl] at k
      exact k.elim
  | _ => exact k.elim
/-! ### a list of one's own handed to a def within a test -/
def tLook (i : Nat) (f : Ev → Rs Bool) : Ev → Rs Bool := fun ρ => match ρ[i]? with
  | some (some (true, .list ds)) => f (ρ.set i (some (false, .list ds)))
  | _ => f ρ
theorem dt_look (i : Nat) {e : Expr} {f : Ev → Rs Bool} (h : Dt S e f) : Dt S e (tLook i f) := by
  obtain ⟨t, h1, h2⟩ := h
  refine ⟨t, h1, fun B H0 N σ H ρ Q E r k => ?_⟩
  unfold tLook at k
  split at k
  · rename_i ds q
    obtain ⟨N', r', kf⟩ := r.freeze q
    exact h2 B H0 N' σ H _ Q E r' k
  · exact h2 B H0 N σ H ρ Q E r k
end
/-! ### dicts of ints -/
def lookI (kvs : List (Int × Int)) (k : Int) : Option Int := (kvs.find? fun p => decide (p.1 = k)).map (·.2)
def putI (kvs : List (Int × Int)) (k v : Int) : List (Int × Int) := if (kvs.any fun p => decide (p.1 = k)) = true then kvs.map (fun p => if p.1 = k then (p.1, v) else p) else kvs ++ [(k, v)]
def asKv : List (PyData × PyData) → Option (List (Int × Int))
  | [] => some []
  | (.int k, .int v) :: r => (asKv r).map ((k, v) :: ·)
  | _ => none
def asDct : PyData → Option (List (Int × Int))
  | .dict ((.bool true, .none) :: r) => asKv r
  | _ => none
theorem asKv_map : ∀ kvs : List (Int × Int), asKv (kvs.map fun p => (PyData.int p.1, PyData.int p.2)) = some kvs
  | [] => rfl
  | (k, v) :: r => by
    show (asKv (r.map fun p => (PyData.int p.1, PyData.int p.2))).map ((k, v) :: ·) = _
    rw [asKv_map r]
    rfl
@[simp] theorem asDct_of (kvs : List (Int × Int)) : asDct (dctD kvs) = some kvs := asKv_map kvs
theorem look_V (kvs : List (Int × Int)) (k : Int) : valV (kvI kvs) (Sum.inl k) = (lookI kvs k).map V.int := by
  induction kvs with
  | nil => rfl
  | cons p r ih =>
    unfold valV lookI at ih ⊢
    simp only [kvI, List.map_cons, List.find?_cons] at ih ⊢
    by_cases h : p.1 = k
    · have h' : (Sum.inl p.1 : Key) = Sum.inl k := by rw [h]
      simp [h, h']
    · have h' : ¬ (Sum.inl p.1 : Key) = Sum.inl k := fun z => h (Sum.inl.inj z)
      simp only [decide_eq_false h, decide_eq_false h']
      exact ih
theorem put_V (kvs : List (Int × Int)) (k v : Int) : putK (kvI kvs) (Sum.inl k) (V.int v) = kvI (putI kvs k v) := by
  have ky : ∀ p : Int × Int, decide ((Sum.inl p.1 : Key) = Sum.inl k) = decide (p.1 = k) := fun p => by
    by_cases h : p.1 = k
    · rw [decide_eq_true h, decide_eq_true (by rw [h])]
    · rw [decide_eq_false h, decide_eq_false (fun z => h (Sum.inl.inj z))]
  unfold putK putI kvI
  rw [List.any_map]
  have e : ((fun kv : Key × V => decide (kv.1 = (Sum.inl k : Key))) ∘ fun p : Int × Int => ((Sum.inl p.1 : Key), V.int p.2)) = fun p : Int × Int => decide (p.1 = k) := funext ky
  rw [e]
  by_cases h : (kvs.any fun p => decide (p.1 = k)) = true
  · rw [if_pos h, if_pos h, List.map_map, List.map_map]
    refine List.map_congr_left fun p _ => ?_
    show (if (Sum.inl p.1 : Key) = Sum.inl k then ((Sum.inl p.1 : Key), V.int v) else (Sum.inl p.1, V.int p.2)) = ((Sum.inl (if p.1 = k then (p.1, v) else p).1 : Key), V.int (if p.1 = k then (p.1, v) else p).2)
    by_cases q : p.1 = k
    · rw [if_pos (by rw [q]), if_pos q]
    · rw [if_neg (fun z => q (Sum.inl.inj z)), if_neg q]
  · rw [if_neg h, if_neg h, List.map_append]
    rfl
section
variable {S : Sx} {w : Bool}
theorem Dw.dctOf {K : PySem.W.Frag} {N : Addr → Prop} {H : Hp} {v : V} {d : PyData} {kvs : List (Int × Int)} (h : Dw K N H v d) (e : asDct d = some kvs) : ∃ a, v = .ref a ∧ H a = some (.dK (kvI kvs)) := by
  cases h with
  | dd h => cases h <;> cases e
  | own _ _ => cases e
  | dct kvs' q =>
    rw [asDct_of] at e
    cases e
    exact ⟨_, rfl, q⟩
/-- k in d -/
def inDctD (d e : PyData) : Rs PyData := match asDct e, d with
  | some kvs, .int k => .ok (.bool (lookI kvs k).isSome)
  | _, _ => .bad
theorem op_dIn {X : Cx} (hu : X.A.units + 1 < cLine) : OpR X (compareOp .In) (fun y x H Q => ∃ a o, x = .ref a ∧ DGet H a y o ∧ Q (.bl o.isSome) H) := by
  intro pins s σ H y x iv u Q I ry rx h
  obtain ⟨a, ov, ex, g, q⟩ := h
  subst ex
  obtain rfl : u = Value.ref a := rx
  exact d_in hu I g ry fun s3 I3 => ⟨.bl ov.isSome, H, I3, rfl, q⟩
theorem opD_inDct : OpD S w (fun y x H Q => ∃ a o, x = .ref a ∧ DGet H a y o ∧ Q (.bl o.isSome) H) inDctD := by
  intro N H x y d e Q E t hx hy k
  unfold inDctD at k
  split at k
  · rename_i kvs z q1
    obtain ⟨a, rfl, ea⟩ := hy.dctOf q1
    cases hx.int
    refine ⟨a, _, rfl, .k (k := Sum.inl z) ea, k _ H (Same.refl _) (.of ?_)⟩
    rw [look_V, Option.isSome_map]
    exact .bl _
  · exact k.elim
theorem cmp_inDct : CmpD S .In inDctD := ⟨_, fun X E c => op_dIn (by have := c.room.un; omega), fun w => opD_inDct⟩
/-- d[k] -/
def getDctD (d e : PyData) : Rs PyData := match asDct d, e with
  | some kvs, .int k => match lookI kvs k with
    | some v => .ok (.int v)
    | none => .bad
  | _, _ => .bad
theorem opD_getDct : OpD S w (fun x y H Q => ∃ a v, x = .ref a ∧ DGet H a y (some v) ∧ Q v H) getDctD := by
  intro N H x y d e Q E t hx hy k
  unfold getDctD at k
  split at k
  · rename_i kvs z q1
    cases q2 : lookI kvs z with
    | none => rw [q2] at k; exact k.elim
    | some v =>
      rw [q2] at k
      obtain ⟨a, rfl, ea⟩ := hx.dctOf q1
      cases hy.int
      have g := DGet.k (k := Sum.inl z) ea
      rw [look_V, q2] at g
      exact ⟨a, _, rfl, g, k _ H (Same.refl _) (.of (.int _))⟩
  · exact k.elim
theorem de_getDct {a b : Expr} {pos : Pos} {fa fb : Ev → Rs PyData} (ha : De true S a fa) (hb : De true S b fb) (hs : NoSl b := by exact fun _ _ => rfl) : De w S (.Subscript a b pos) (e2 getDctD fa fb) :=
  de_two (r := fun x y H Q => ∃ a v, x = .ref a ∧ DGet H a y (some v) ∧ Q v H) (fun X E c ta tb h1 h2 => pe_dget (by have := c.room.un; omega) h1 h2 hs) opD_getDct ha hb
/-- x = {} -/
def sSetD (i : Nat) : Ev → Rs Out := fun ρ => .ok (.nx (ρ.set i (some (true, dctD []))))
theorem ds_setD (i : Nat) {x : Str} {pos pos' p : Pos} (nd : S.N.Nodup) (hi : S.N[i]? = some x := by rfl) (hx : LocS S x := by first | exact Or.inl rfl | exact Or.inr ⟨rfl, rfl⟩) (hs : ∀ env : Env, env.scope = S.sc → swapsWith (.Dict [] [] p) (some (.Name x pos')) pos.line env = pure false := by intro _ _; rfl) : Ds S (.Assign [.Name x pos'] (.Dict [] [] p) pos) (sSetD i) :=
  ⟨fun E => tAsg tDNewK (gName i), fun X E c => ps_set (by rw [c.N]; exact nd) (n_of c hi) (loc_of c hx).1 pe_dnewK (hs _ c.sc) (loc_of c hx).2, fun B H0 N σ H ρ D E r k => fun p hp => by
    have s : Same H (upd H p (.dK (kvI []))) := same_upd hp
    exact k _ _ (upd H p (.dK (kvI []))) (r.setOw i s hp upd_same (.dct [])) ⟨fun a o q n => ⟨s a o q, fun z => z.elim n (ne_of_none q hp)⟩, fun a xs q => same_rd s q⟩⟩
/-- d[k] = v -/
noncomputable def sPutD (i : Nat) (fv fk : Ev → Rs PyData) : Ev → Rs Out := fun ρ => (fv ρ).bind fun v => (match ρ[i]? with
  | some (some (true, d)) => (match asDct d with
    | some kvs => (fk ρ).bind fun k => (match k, v with
      | .int k, .int v => @ite _ (kvs.length < lim) (Classical.propDecidable _) (.ok (.nx (ρ.set i (some (true, dctD (putI kvs k v)))))) .bad
      | _, _ => .bad)
    | none => .bad)
  | _ => .bad)
theorem ds_putD (i : Nat) {x : Str} {e j : Expr} {xp pos pos' : Pos} {fv fk : Ev → Rs PyData} (he : De false S e fv) (hj : De true S j fk) (hi : S.N[i]? = some x := by rfl) (hv : Vis S.sc x := by first | exact Or.inl rfl | exact Or.inr (Or.inl rfl) | exact Or.inr (Or.inr rfl)) (hd : (x == ("__debug__" : Str)) = false := by decide) (hcd : (x == ("__classdict__" : Str)) = false := by decide)
    (hs : ∀ env : Env, swapsWith e (some (.Subscript (.Name x xp) j pos')) pos.line env = pure false := by intro _; rfl) : Ds S (.Assign [.Subscript (.Name x xp) j pos'] e pos) (sPutD i fv fk) := by
  obtain ⟨t, h1, h2⟩ := he
  obtain ⟨u, h3, h4⟩ := hj
  refine ⟨fun E => sDPut (tVar i) (u E) (t E), fun X E c => ps_dput (by have := c.room.un; omega) (pe_var (n_of c hi) (vis_of c hv) hd hcd) (h3 X E c) (h1 X E c) (hs _), fun B H0 N σ H ρ D E r k => h2 B H0 N σ H ρ _ E r ?_⟩
  unfold sPutD at k
  cases e1 : fv ρ with
  | bad => rw [e1] at k; exact k
  | err c => rw [e1] at k; exact ES.err r.base k
  | ok v =>
    rw [e1, Rs.bind_ok] at k
    intro y H1 s1 k1
    split at k
    · rename_i d q
      cases qd : asDct d with
      | none => rw [qd] at k; exact k.elim
      | some kvs =>
        rw [qd] at k
        obtain ⟨a, o, f1, f3, f4, f5⟩ := r.own i _ q
        obtain rfl : o = .dK (kvI kvs) := by
          cases f4 with
          | lst _ => cases qd
          | dct kvs' =>
            rw [asDct_of] at qd
            cases qd
            rfl
        refine ⟨.ref a, f1, h4 B H0 N σ H1 ρ _ E (r.same s1) ?_⟩
        cases e2 : fk ρ with
        | bad => simp only [e2, Rs.bind_bad] at k; exact k
        | err c => simp only [e2, Rs.bind_err] at k; exact fun H' s' => ES.err r.base k H' (s1.trans s')
        | ok kd =>
          simp only [e2, Rs.bind_ok] at k
          intro z H2 s2 k2
          split at k
          · rename_i kk vv
            by_cases hl : kvs.length < lim
            · rw [if_pos hl] at k
              have s12 := s1.trans s2
              have r2 := r.same s12
              cases (DW.w k2).int
              have k1' : Dd S.K N H1 y (.int vv) := k1
              cases k1'
              have sz : (kvI kvs).length < sizeLine := by
                rw [List.length_map]
                exact Nat.lt_of_lt_of_le hl (by decide)
              have dp := DPut.k (k := Sum.inl kk) (v := V.int vv) (s12 _ _ f3) sz
              rw [put_V] at dp
              refine ⟨a, _, rfl, dp, ?_⟩
              obtain ⟨r3, kf⟩ := r2.mutO (o' := .dK (kvI (putI kvs kk vv))) q f1 (.dct _)
              exact k N σ _ r3 ((KeepF.same s12).trans kf)
            · rw [if_neg hl] at k
              exact k.elim
          · exact k.elim
    · exact k.elim
/-- d.get(k, v) -/
def eGetD (i : Nat) (fk fz : Ev → Rs PyData) : Ev → Rs PyData := fun ρ => match ρ[i]? with
  | some (some (_, d)) => (match asDct d with
    | some kvs => (fk ρ).bind fun k => (fz ρ).bind fun z => (match k, z with
      | .int k, .int z => .ok (.int ((lookI kvs k).getD z))
      | _, _ => .bad)
    | none => .bad)
  | _ => .bad
theorem de_getD (i : Nat) {x : Str} {e f : Expr} {xp apos cpos : Pos} {fk fz : Ev → Rs PyData} (hk : De true S e fk) (hz : De true S f fz) (hi : S.N[i]? = some x := by rfl) (hv : Vis S.sc x := by first | exact Or.inl rfl | exact Or.inr (Or.inl rfl) | exact Or.inr (Or.inr rfl)) (hd : (x == ("__debug__" : Str)) = false := by decide) (hcd : (x == ("__classdict__" : Str)) = false := by decide)
    (hb : ∀ env, attributeBase (.Name x xp) "get" env (eval (.Name x xp) env) = eval (.Name x xp) env := by intro _; rfl)
    (hfew : ∀ env, ((backTo cpos (starEach [e, f] env)).all (fun x => !x.1) && (backToKw cpos (keywordEach [] env)).all (fun x => x.1.isSome) && decide (([e, f] : List Expr).length + ([] : List Keyword).length + (if ([] : List Keyword).isEmpty then 0 else 1) < 30)) = true := by intro _; rfl)
    (hline : (apos.endLine == cpos.line) = true := by rfl) (htr : ∀ env, backTo cpos (starEach [e, f] env) = [(false, eval e env), (false, eval f env)] := by intro _; rfl) :
    De w S (.Call (.Attribute (.Name x xp) "get" apos) [e, f] [] cpos) (eGetD i fk fz) := by
  obtain ⟨u, h3, h4⟩ := hk
  obtain ⟨v, h5, h6⟩ := hz
  refine ⟨fun E => tDGet2 (tVar i) (u E) (v E), fun X E c => pe_dget2 (by have := c.room.un; omega) (pe_var (n_of c hi) (vis_of c hv) hd hcd) (h3 X E c) (h5 X E c) ⟨hb _, hfew _, hline, htr _⟩, fun B H0 N σ H ρ Q E rp k => ?_⟩
  unfold eGetD at k
  split at k
  · rename_i b d q
    split at k
    · rename_i kvs qd
      obtain ⟨y0, ey, dw⟩ := rp.slot q
      obtain ⟨a, rfl, ea⟩ := dw.dctOf qd
      refine ⟨.ref a, ey, a, rfl, .inl ⟨_, .inl ea⟩, h4 B H0 N σ H ρ _ E rp ?_⟩
      cases e1 : fk ρ with
      | bad => rw [e1] at k; exact k
      | err c => rw [e1] at k; exact k
      | ok kd =>
        rw [e1, Rs.bind_ok] at k
        intro y H1 s1 k1
        refine h6 B H0 N σ H1 ρ _ E (rp.same s1) ?_
        cases e2 : fz ρ with
        | bad => rw [e2] at k; exact k
        | err c => rw [e2] at k; exact fun H' s' => k H' (s1.trans s')
        | ok zd =>
          rw [e2, Rs.bind_ok] at k
          intro z H2 s2 k2
          split at k
          · rename_i kk zz
            cases (DW.w k1).int
            cases (DW.w k2).int
            have g := DGet.k (k := Sum.inl kk) ((s1.trans s2) _ _ ea)
            rw [look_V] at g
            refine ⟨_, g, k _ H2 (s1.trans s2) (.of ?_)⟩
            cases lookI kvs kk with
            | none => exact .int _
            | some v => exact .int _
          · exact k.elim
    · exact k.elim
  · exact k.elim
/-! ### len(set(t)) of a tuple of ints -/
def dedI : List Int → List Int
  | [] => []
  | x :: r => if x ∈ r then dedI r else x :: dedI r
theorem dedI_mem : ∀ {l : List Int} {x : Int}, x ∈ dedI l ↔ x ∈ l
  | [], x => Iff.rfl
  | y :: l, x => by
    unfold dedI
    by_cases h : y ∈ l
    · rw [if_pos h, dedI_mem (l := l)]
      refine ⟨fun q => List.mem_cons_of_mem _ q, fun q => ?_⟩
      rcases List.mem_cons.mp q with rfl | q
      · exact h
      · exact q
    · rw [if_neg h, List.mem_cons, List.mem_cons, dedI_mem (l := l)]
theorem dedI_nodup : ∀ l : List Int, (dedI l).Nodup
  | [] => List.nodup_nil
  | y :: l => by
    unfold dedI
    by_cases h : y ∈ l
    · rw [if_pos h]; exact dedI_nodup l
    · rw [if_neg h]; exact List.nodup_cons.mpr ⟨fun z => h (dedI_mem.mp z), dedI_nodup l⟩
theorem dedI_len : ∀ l : List Int, (dedI l).length ≤ l.length
  | [] => Nat.le_refl _
  | y :: l => by
    have := dedI_len l
    unfold dedI
    split
    · rw [List.length_cons]; omega
    · rw [List.length_cons, List.length_cons]; omega
theorem dedI_eq : ∀ {l : List Int}, (dedI l).length = l.length ↔ l.Nodup
  | [] => ⟨fun _ => List.nodup_nil, fun _ => rfl⟩
  | y :: l => by
    have h1 := dedI_len l
    have ih := dedI_eq (l := l)
    unfold dedI
    by_cases h : y ∈ l
    · rw [if_pos h]
      refine ⟨fun q => ?_, fun q => absurd h (List.nodup_cons.mp q).1⟩
      rw [List.length_cons] at q
      omega
    · rw [if_neg h, List.length_cons, List.length_cons, List.nodup_cons]
      exact ⟨fun q => ⟨h, ih.mp (by omega)⟩, fun q => by rw [ih.mpr q.2]⟩
theorem sub_len : ∀ {l r : List Int}, l.Nodup → (∀ x ∈ l, x ∈ r) → l.length ≤ r.length
  | [], r, _, _ => Nat.zero_le _
  | x :: l, r, hn, hs => by
    obtain ⟨h1, h2⟩ := List.nodup_cons.mp hn
    have hx := hs x List.mem_cons_self
    have ih := sub_len (l := l) (r := r.erase x) h2 fun y hy => (List.mem_erase_of_ne (fun z : y = x => h1 (z ▸ hy))).mpr (hs y (List.mem_cons_of_mem _ hy))
    rw [List.length_erase_of_mem hx] at ih
    have := List.length_pos_of_mem hx
    rw [List.length_cons]
    omega
def tLenSetT (K : PySem.W.Frag) (ta : TE) : TE := fun σ H Q => ta σ H fun x H1 => ∃ (l : Addr) (ns : List Int), x = .ref l ∧ SqT K H1 l (ns.map V.int) ∧ ns.length ≤ 4000 ∧ Q (.int ((dedI ns).length : Nat)) H1
theorem pe_lenSetT {X : Cx} {a : Expr} {ta : TE} {p p2 q pos : Pos} (hg : Gl X "len") (hm : X.mg "len" = none) (hg2 : Gl X "set") (hm2 : X.mg "set" = none) (ha : PE X a ta) (hc : X.calm = true)
    (na : starEach [a] X.env = (false, eval a X.env) :: starEach [] X.env) : PE X (.Call (.Name "len" p) [.Call (.Name "set" p2) [a] [] q] [] pos) (tLenSetT X.K ta) := by
  refine ⟨fun pins s σ H Q I h => ?_⟩
  refine Call_ (ld_blt I hg hm boot_len ?_)
  refine PyProof.Rows.callWith_builtin1 (PyProof.Rows.args_cons ?_ rfl) rfl rfl
  refine Call_ (ld_blt I hg2 hm2 boot_set ?_)
  refine PyProof.Rows.callWith_type1 (PyProof.Rows.args_cons (thn (ha.run pins s σ H _ I h) fun v s1 ⟨x, H1, I1, r1, q1⟩ => PyProof.Rows.args_nil ?_) na) na rfl
  obtain ⟨l, ns, rfl, hq, hl, q1⟩ := q1
  cases r1
  obtain ⟨its, r, pl, hz⟩ := I1.tuple hq
  refine call_set_tupI ns (I1.ok.hd hc) pl (by simpa using RZ.intsAre_vals r) (by unfold scanBound; omega) fun h' tk c hS hcl hk => ?_
  refine PyProof.Rows.args_nil ?_
  obtain ⟨o, es, ep, t, ho, hex, hd, _, nd, mem, _, hf, hn, _⟩ := hS
  have I2 : Inv X pins σ H1 { s1 with heap := h', toks := tk } := I1.kept hk
  have hcc : c = (dedI ns).length := by
    have e1 : (es.toList.map keyOf).length = c := by rw [List.length_map, Array.length_toList]; exact hn
    have m : ∀ x, x ∈ es.toList.map keyOf ↔ x ∈ dedI ns := fun x => by
      rw [dedI_mem, ← mem x, decide_eq_true_iff]
    have a1 := sub_len nd fun x hx => (m x).mp hx
    have a2 := sub_len (dedI_nodup ns) fun x hx => (m x).mpr hx
    omega
  exact call_len_set ho hex hd hf (by rw [hn] <;> omega) ⟨.int ((dedI ns).length : Nat), H1, I2.tok _, ⟨_, by rw [hn, hcc]⟩, q1⟩
noncomputable def lenSetD (d : PyData) : Rs PyData := match d with
  | .tuple ds => (match asInts ds with
    | some ns => @ite _ (ns.length ≤ 4000) (Classical.propDecidable _) (.ok (.int ((dedI ns).length : Nat))) .bad
    | none => .bad)
  | _ => .bad
theorem de_lenSet {a : Expr} {p p2 q pos : Pos} {f : Ev → Rs PyData} (hm : S.mg "len" = none) (hm2 : S.mg "set" = none) (ha : De true S a f) (hg : Gn S "len" := by rfl) (hg2 : Gn S "set" := by rfl) (na : ∀ env, starEach [a] env = (false, eval a env) :: starEach [] env := by intro _; rfl) : De w S (.Call (.Name "len" p) [.Call (.Name "set" p2) [a] [] q] [] pos) (e1 lenSetD f) := by
  obtain ⟨t, h1, h2⟩ := ha
  refine ⟨fun E => tLenSetT S.K (t E), fun X E c => by rw [← c.K]; exact pe_lenSetT (gl_of c hg) (by rw [c.mg]; exact hm) (gl_of c hg2) (by rw [c.mg]; exact hm2) (h1 X E c) c.calm (na _), fun B H0 N σ H ρ Q E rp k => h2 B H0 N σ H ρ _ E rp ?_⟩
  have k : EE w S N H Q E ((f ρ).bind lenSetD) := k
  cases e1 : f ρ with
  | bad => rw [e1] at k; exact k
  | err c => rw [e1] at k; exact k
  | ok d =>
    rw [e1, Rs.bind_ok] at k
    intro v H1 s1 k1
    unfold lenSetD at k
    split at k
    · split at k
      · rename_i ns hn
        by_cases hl : ns.length ≤ 4000
        · rw [if_pos hl] at k
          obtain ⟨b, xs, rfl, e2, kk⟩ := (DW.w k1).tup
          exact ⟨b, ns, rfl, by rw [← dd_ints kk hn]; exact e2, hl, k _ H1 s1 (.of (.int _))⟩
        · rw [if_neg hl] at k
          exact k.elim
      · exact k.elim
    · exact k.elim
end
/-! ### x in range(n) -/
section
variable {X : Cx}
theorem op_in_rng : OpR X (compareOp .In) (fun x y H Q => ∃ i a lo hi, x = V.int i ∧ y = V.ref a ∧ H a = some (.rng lo hi) ∧ Q (.bl (decide (lo ≤ i ∧ i < hi))) H) := by
  intro pins s σ H x y v u Q I rx ry h
  obtain ⟨i, a, lo, hi, rfl, rfl, ha, q⟩ := h
  obtain ⟨k, rfl⟩ := rx
  obtain rfl : u = Value.ref a := ry
  obtain ⟨t1, t2, t3, ho⟩ := I.hok a _ ha
  show wpAny _ _ (do return Value.bool (← contains (Value.ref a) (Value.int i k))) _ _ s
  refine wpAny_bind (wpAny_contains_slot (T := "range") ⟨_, ho, rfl⟩ F.slot_range_contains (call_meets F.slot_range_contains ⟨_, ho, rfl⟩ F.entry_range_contains (F.args_range_contains_2 _ _) (q_contains a lo hi i t1 t2 t3 k)
    ⟨ho, wpAny_truthy_bool (wpAny_pure ⟨.bl _, H, I, rfl, ?_⟩)⟩))
  rw [place1]
  exact q
end
section
variable {S : Sx} {w : Bool}
def inRgD (neg : Bool) (d e : PyData) : Rs PyData := match d, e with
  | .int i, .int n => .ok (.bool (neg ^^ decide (0 ≤ i ∧ i < n)))
  | _, _ => .bad
abbrev rRng : List V → Hp → VK → Prop := fun vs H Q => ∃ j, vs = [V.int j] ∧ ∀ p, H p = none → Q (.ref p) (upd H p (.rng 0 j))
abbrev rInY : R2 := fun x y H Q => ∃ i a lo hi, x = V.int i ∧ y = V.ref a ∧ H a = some (.rng lo hi) ∧ Q (.bl (decide (lo ≤ i ∧ i < hi))) H
abbrev rInN : R2 := fun x y H Q => ∃ i a lo hi, x = V.int i ∧ y = V.ref a ∧ H a = some (.rng lo hi) ∧ Q (.bl (!decide (lo ≤ i ∧ i < hi))) H
theorem rng_run {neg : Bool} {r : R2} {ta tb : TE} {fa fb : Ev → Rs PyData} {B : Addr → Prop} {H0 : Hp} {N : Addr → Prop} {σ : L2.St} {H : Hp} {ρ : Ev} {Q : VK} {E : XK} (hr : ∀ i n p (H : Hp) Q, H p = some (.rng 0 n) → Q (.bl (neg ^^ decide (0 ≤ i ∧ i < n))) H → r (.int i) (.ref p) H Q) (rp : Rep S.K B H0 N σ H ρ) (h2 : ∀ H Q, Rep S.K B H0 N σ H ρ → EE true S N H Q E (fa ρ) → ta σ H Q) (h4 : ∀ H Q, Rep S.K B H0 N σ H ρ → EE true S N H Q E (fb ρ) → tb σ H Q) (k : EE w S N H Q E (e2 (inRgD neg) fa fb ρ)) : tOp r ta (tCB rRng (tCons tb tNil)) σ H Q := by
  refine h2 H _ rp ?_
  have k : EE w S N H Q E ((fa ρ).bind fun d => (fb ρ).bind fun e => inRgD neg d e) := k
  cases e1 : fa ρ with
  | bad => rw [e1] at k; exact k
  | err c => rw [e1] at k; exact k
  | ok d =>
    rw [e1, Rs.bind_ok] at k
    intro v H1 s1 k1
    refine h4 H1 _ (rp.same s1) ?_
    cases e2 : fb ρ with
    | bad => rw [e2] at k; exact k
    | err c => rw [e2] at k; exact fun H' s' => k H' (s1.trans s')
    | ok e =>
      rw [e2, Rs.bind_ok] at k
      intro u H2 s2 k2
      unfold inRgD at k
      split at k
      · rename_i i n
        cases (DW.w k1).int
        cases (DW.w k2).int
        refine ⟨n, rfl, fun p hp => hr i n p _ _ upd_same (k _ _ ((s1.trans s2).trans (same_upd hp)) (.of (.bl _)))⟩
      · exact k.elim
theorem de_inRg {a b : Expr} {p pos' pos : Pos} {fa fb : Ev → Rs PyData} (hm : S.mg "range" = none) (ha : De true S a fa) (hb : De true S b fb) (hg : Gn S "range" := by rfl) (he : ∀ env, starEach [b] env = (false, eval b env) :: starEach [] env := by intro _; rfl) (hk : behindInMarks .In (.Call (.Name "range" p) [b] [] pos') = false := by rfl) : De w S (.Compare a [.In] [.Call (.Name "range" p) [b] [] pos'] pos) (e2 (inRgD false) fa fb) := by
  obtain ⟨t, h1, h2⟩ := ha
  obtain ⟨u, h3, h4⟩ := hb
  exact ⟨fun E => tOp rInY (t E) (tCB rRng (tCons (u E) tNil)), fun X E c => pe_cmpR op_in_rng (h1 X E c) (pe_callTy (T := "range") cr_range1 (gl_of c hg) (by rw [c.mg]; exact hm) (by decide +kernel) (pa_cons (h3 X E c) pa_nil (he _)) (by decide) (by decide) (he _) rfl) hk, fun B H0 N σ H ρ Q E rp k => rng_run (neg := false) (fun i n p H Q e q => ⟨i, p, 0, n, rfl, rfl, e, by rw [Bool.false_xor] at q; exact q⟩) rp (fun H Q r k => h2 B H0 N σ H ρ Q E r k) (fun H Q r k => h4 B H0 N σ H ρ Q E r k) k⟩
theorem de_inRgN {a b : Expr} {p pos' pos : Pos} {fa fb : Ev → Rs PyData} (hm : S.mg "range" = none) (ha : De true S a fa) (hb : De true S b fb) (hg : Gn S "range" := by rfl) (he : ∀ env, starEach [b] env = (false, eval b env) :: starEach [] env := by intro _; rfl) (hk : behindInMarks .NotIn (.Call (.Name "range" p) [b] [] pos') = false := by rfl) : De w S (.Compare a [.NotIn] [.Call (.Name "range" p) [b] [] pos'] pos) (e2 (inRgD true) fa fb) := by
  obtain ⟨t, h1, h2⟩ := ha
  obtain ⟨u, h3, h4⟩ := hb
  exact ⟨fun E => tOp rInN (t E) (tCB rRng (tCons (u E) tNil)), fun X E c => pe_cmpR op_notin_rng (h1 X E c) (pe_callTy (T := "range") cr_range1 (gl_of c hg) (by rw [c.mg]; exact hm) (by decide +kernel) (pa_cons (h3 X E c) pa_nil (he _)) (by decide) (by decide) (he _) rfl) hk, fun B H0 N σ H ρ Q E rp k => rng_run (neg := true) (fun i n p H Q e q => ⟨i, p, 0, n, rfl, rfl, e, by rw [Bool.true_xor] at q; exact q⟩) rp (fun H Q r k => h2 B H0 N σ H ρ Q E r k) (fun H Q r k => h4 B H0 N σ H ρ Q E r k) k⟩
theorem dt_inRg {a b : Expr} {p pos' pos : Pos} {fa fb : Ev → Rs PyData} (hm : S.mg "range" = none) (ha : De true S a fa) (hb : De true S b fb) (hg : Gn S "range" := by rfl) (he : ∀ env, starEach [b] env = (false, eval b env) :: starEach [] env := by intro _; rfl) (hk : behindInMarks .In (.Call (.Name "range" p) [b] [] pos') = false := by rfl) : Dt S (.Compare a [.In] [.Call (.Name "range" p) [b] [] pos'] pos) (tB' (e2 (inRgD false) fa fb)) := by
  obtain ⟨t, h1, h2⟩ := ha
  obtain ⟨u, h3, h4⟩ := hb
  exact dt_of (mk := tTest) (fun t σ H Q q => q) ⟨fun E => tOp rInY (t E) (tCB rRng (tCons (u E) tNil)), fun X E c => pt_cmpR op_in_rng (h1 X E c) (pe_callTy (T := "range") cr_range1 (gl_of c hg) (by rw [c.mg]; exact hm) (by decide +kernel) (pa_cons (h3 X E c) pa_nil (he _)) (by decide) (by decide) (he _) rfl) hk, fun B H0 N σ H ρ Q E rp k => rng_run (neg := false) (fun i n p H Q e q => ⟨i, p, 0, n, rfl, rfl, e, by rw [Bool.false_xor] at q; exact q⟩) rp (fun H Q r k => h2 B H0 N σ H ρ Q E r k) (fun H Q r k => h4 B H0 N σ H ρ Q E r k) k⟩
theorem dt_inRgN {a b : Expr} {p pos' pos : Pos} {fa fb : Ev → Rs PyData} (hm : S.mg "range" = none) (ha : De true S a fa) (hb : De true S b fb) (hg : Gn S "range" := by rfl) (he : ∀ env, starEach [b] env = (false, eval b env) :: starEach [] env := by intro _; rfl) (hk : behindInMarks .NotIn (.Call (.Name "range" p) [b] [] pos') = false := by rfl) : Dt S (.Compare a [.NotIn] [.Call (.Name "range" p) [b] [] pos'] pos) (tB' (e2 (inRgD true) fa fb)) := by
  obtain ⟨t, h1, h2⟩ := ha
  obtain ⟨u, h3, h4⟩ := hb
  exact dt_of (mk := tTest) (fun t σ H Q q => q) ⟨fun E => tOp rInN (t E) (tCB rRng (tCons (u E) tNil)), fun X E c => pt_cmpR op_notin_rng (h1 X E c) (pe_callTy (T := "range") cr_range1 (gl_of c hg) (by rw [c.mg]; exact hm) (by decide +kernel) (pa_cons (h3 X E c) pa_nil (he _)) (by decide) (by decide) (he _) rfl) hk, fun B H0 N σ H ρ Q E rp k => rng_run (neg := true) (fun i n p H Q e q => ⟨i, p, 0, n, rfl, rfl, e, by rw [Bool.true_xor] at q; exact q⟩) rp (fun H Q r k => h2 B H0 N σ H ρ Q E r k) (fun H Q r k => h4 B H0 N σ H ρ Q E r k) k⟩
end
@[simp] theorem q_inRg (neg : Bool) (i n : Int) : inRgD neg (.int i) (.int n) = .ok (.bool (neg ^^ decide (0 ≤ i ∧ i < n))) := rfl
/-! ### enumerate(zip(a, b)) -/
section
variable {S : Sx}
def iEnumZipD (fs : Ev → Rs (List PyData)) : Ev → Rs (List PyData) := fun ρ => (fs ρ).bind fun
  | [.tuple as, .tuple bs] => .ok (enumG 0 (zipD as bs))
  | _ => .bad
theorem jok_ez {N : Addr → Prop} {H : Hp} {a b : Addr} {as bs : List PyData} (h : Dd S.K N H (.ref a) (.tuple as)) (h' : Dd S.K N H (.ref b) (.tuple bs)) : JOk S.K (ItEZ S.K a b) (enumG 0 (zipD as bs)) N H := by
  refine ⟨fun N H => Dd S.K N H (.ref a) (.tuple as) ∧ Dd S.K N H (.ref b) (.tuple bs), ⟨h, h'⟩, fun N H N' H' h k => ⟨h.1.keep k, h.2.keep k⟩, fun N H i d h e => ?_, fun N H h => ?_⟩
  · obtain ⟨e0, he, rfl⟩ := enumG_get e
    obtain ⟨x, y, hx, hy, rfl⟩ := zipD_get he
    obtain ⟨h, h'⟩ := h
    cases h with
    | tup e1 k1 =>
      cases h' with
      | tup e2 k2 =>
        obtain ⟨v, hv, kv⟩ := k1.get hx
        obtain ⟨u, hu, ku⟩ := k2.get hy
        refine ⟨⟨_, _, v, u, e1, e2, hv, hu⟩, fun v' H' z => ?_⟩
        obtain ⟨T, U, x', y', rfl, hT, hU, rfl, z1, z2⟩ := z
        have q1 := z1 _ e1
        have q2 := z2 _ e2
        rw [hv] at q1
        rw [hu] at q2
        cases q1
        cases q2
        refine ⟨(same_upd hT).trans (same_upd hU), dd_pair hU (by rw [Nat.zero_add]; exact .int _) (dd_pair hT kv ku)⟩
  · obtain ⟨h, h'⟩ := h
    cases h with
    | tup e1 k1 =>
      cases h' with
      | tup e2 k2 => exact ⟨_, _, e1, e2, by rw [k1.len, enumG_len, zipD_len]; omega, by rw [k2.len, enumG_len, zipD_len]; omega, by rw [k1.len, k2.len, enumG_len, zipD_len]; omega⟩
theorem di_enumZip {elts : List Expr} {kk : Nat} {tpos : Pos} {e e' : Expr} {p p2 q pos : Pos} {fs : Ev → Rs (List PyData)} (hm : S.mg "enumerate" = none) (hm2 : S.mg "zip" = none) (h : Da false S [e, e'] fs) (hg : Gn S "enumerate" := by rfl) (hg2 : Gn S "zip" := by rfl) (he : ∀ env, starEach [e, e'] env = (false, eval e env) :: starEach [e'] env := by intro _; rfl) (hpl : ∀ env, (backTo q (starEach [e'] env)).any (·.1) = false := by intro _; rfl) : Di S (.Tuple elts kk tpos) (.Call (.Name "enumerate" p) [.Call (.Name "zip" p2) [e, e'] [] q] [] pos) (iEnumZipD fs) := by
  obtain ⟨t, h1, h2, _⟩ := h
  refine ⟨fun E => iEnumZip S.K (t E), fun X E c => by rw [← c.K]; exact pi_enumZip (gl_of c hg) (by rw [c.mg]; exact hm) (gl_of c hg2) (by rw [c.mg]; exact hm2) (h1 X E c) (he _) (hpl _), fun B H0 N σ H ρ R E rp k => h2 B H0 N σ H ρ _ E rp ?_⟩
  unfold iEnumZipD at k
  cases e1 : fs ρ with
  | bad => rw [e1] at k; exact k
  | err c => rw [e1] at k; exact k
  | ok d =>
    rw [e1, Rs.bind_ok] at k
    intro vs H1 s1 k1
    split at k
    · obtain ⟨v, u, rfl, hx, hy⟩ := pd2 k1
      obtain ⟨a, xs, rfl, e1, _⟩ := Dw.tup (.dd hx)
      obtain ⟨b, ys, rfl, e2, _⟩ := Dw.tup (.dd hy)
      exact ⟨a, b, xs, ys, rfl, e1, e2, k _ H1 s1 (jok_ez hx hy)⟩
    · exact k.elim
end
/-! ### how the functions over data are reckoned -/
@[simp] theorem bind_ok' {α β : Type} (a : α) (f : α → Rs β) : (Rs.ok a).bind f = f a := rfl
@[simp] theorem bind_err' {α β : Type} (c : Str) (f : α → Rs β) : (Rs.err c : Rs α).bind f = .err c := rfl
@[simp] theorem bind_bad' {α β : Type} (f : α → Rs β) : (Rs.bad : Rs α).bind f = .bad := rfl
@[simp] theorem bind_assoc' {α β γ : Type} (r : Rs α) (f : α → Rs β) (g : β → Rs γ) : (r.bind f).bind g = r.bind fun a => (f a).bind g := by cases r <;> rfl
section
variable (ρ : Ev)
@[simp] theorem z_var (i : Nat) : eVar i ρ = (match ρ[i]? with | some (some (false, d)) => .ok d | _ => .bad) := rfl
@[simp] theorem z_varR (i : Nat) : eVarR i ρ = (match ρ[i]? with | some (some (_, d)) => .ok d | _ => .bad) := rfl
@[simp] theorem z_C (d : PyData) : eC d ρ = .ok d := rfl
@[simp] theorem z_2 (g : PyData → PyData → Rs PyData) (a b : Ev → Rs PyData) : e2 g a b ρ = (a ρ).bind fun d => (b ρ).bind fun e => g d e := rfl
@[simp] theorem z_1 (g : PyData → Rs PyData) (a : Ev → Rs PyData) : e1 g a ρ = (a ρ).bind g := rfl
@[simp] theorem z_aNil : aNil ρ = .ok [] := rfl
@[simp] theorem z_aCons (f : Ev → Rs PyData) (g : Ev → Rs (List PyData)) : aCons f g ρ = (f ρ).bind fun d => (g ρ).bind fun ds => .ok (d :: ds) := rfl
@[simp] theorem z_tup (f : Ev → Rs (List PyData)) : eTup f ρ = (f ρ).bind fun ds => .ok (.tuple ds) := rfl
@[simp] theorem z_L (f : Ev → Rs (List PyData)) : eL f ρ = (f ρ).bind fun ds => .ok (.list ds) := rfl
@[simp] theorem z_CB (g : List PyData → Rs PyData) (f : Ev → Rs (List PyData)) : eCB g f ρ = (f ρ).bind g := rfl
@[simp] theorem z_call (g : List PyData → Rs PyData) (f : Ev → Rs (List PyData)) : eCall g f ρ = (f ρ).bind g := rfl
@[simp] theorem z_tB (f : Ev → Rs PyData) : tB' f ρ = (f ρ).bind bD := rfl
@[simp] theorem z_bD (b : Bool) : bD (.bool b) = .ok b := rfl
@[simp] theorem z_tNot (f : Ev → Rs Bool) : tNot' f ρ = (f ρ).bind fun b => .ok (!b) := rfl
@[simp] theorem z_tAnd (f g : Ev → Rs Bool) : tAnd' f g ρ = (f ρ).bind fun b => if b = true then g ρ else .ok false := rfl
@[simp] theorem z_tOr (f g : Ev → Rs Bool) : tOr' f g ρ = (f ρ).bind fun b => if b = true then .ok true else g ρ := rfl
@[simp] theorem z_not (f : Ev → Rs PyData) : eNot f ρ = (f ρ).bind fun d => (bD d).bind fun b => .ok (.bool (!b)) := rfl
@[simp] theorem z_and (f g : Ev → Rs PyData) : eAnd f g ρ = (f ρ).bind fun d => (bD d).bind fun b => if b = true then g ρ else .ok (.bool false) := rfl
@[simp] theorem z_or (f g : Ev → Rs PyData) : eOr f g ρ = (f ρ).bind fun d => (bD d).bind fun b => if b = true then .ok (.bool true) else g ρ := rfl
@[simp] theorem z_if (c : Ev → Rs Bool) (f g : Ev → Rs PyData) : eIf c f g ρ = (c ρ).bind fun b => if b = true then f ρ else g ρ := rfl
@[simp] theorem z_chain (g g' : PyData → PyData → Rs PyData) (fa fb fc : Ev → Rs PyData) : eChain g g' fa fb fc ρ = (fa ρ).bind fun a => (fb ρ).bind fun b => (g a b).bind fun z => (bD z).bind fun k => if k = true then (fc ρ).bind fun c => g' b c else .ok (.bool false) := rfl
@[simp] theorem z_tr (f : Ev → Rs PyData) : tTr f ρ = (f ρ).bind truD := rfl
@[simp] theorem z_seq (a b : Ev → Rs Out) : sSeq a b ρ = (a ρ).bind fun | .nx ρ' => b ρ' | o => .ok o := rfl
@[simp] theorem z_nil : sNil ρ = .ok (.nx ρ) := rfl
@[simp] theorem z_set (i : Nat) (f : Ev → Rs PyData) : sSet i f ρ = (f ρ).bind fun d => .ok (.nx (ρ.set i (some (false, d)))) := rfl
@[simp] theorem z_setO (i : Nat) (f : Ev → Rs (List PyData)) : sSetO i f ρ = (f ρ).bind fun ds => .ok (.nx (ρ.set i (some (true, .list ds)))) := rfl
@[simp] theorem z_asg (f : Ev → Rs PyData) (g : PyData → Ev → Rs Ev) : sAsg f g ρ = (f ρ).bind fun d => okE (g d ρ) fun ρ' => .ok (.nx ρ') := rfl
@[simp] theorem z_okE (f : Ev → Rs Out) : okE (.ok ρ) f = f ρ := rfl
@[simp] theorem z_gN (i : Nat) (d : PyData) : gN i d ρ = .ok (ρ.set i (some (false, d))) := rfl
@[simp] theorem z_gsN : gsN [] ρ = .ok ρ := rfl
@[simp] theorem z_gsC (g : PyData → Ev → Rs Ev) (gs : List PyData → Ev → Rs Ev) (d : PyData) (ds : List PyData) : gsC g gs (d :: ds) ρ = (g d ρ).bind (gs ds) := rfl
@[simp] theorem z_gT (n : Nat) (gs : List PyData → Ev → Rs Ev) (ds : List PyData) : gT n gs (.tuple ds) ρ = if ds.length = n then gs ds ρ else .bad := rfl
@[simp] theorem z_ret (f : Ev → Rs PyData) : sRet f ρ = (f ρ).bind fun d => .ok (.ret d) := rfl
@[simp] theorem z_retN : sRetN ρ = .ok (.ret .none) := rfl
@[simp] theorem z_sIf (c : Ev → Rs Bool) (a b : Ev → Rs Out) : sIf c a b ρ = (c ρ).bind fun k => if k = true then a ρ else b ρ := rfl
@[simp] theorem z_for (it : Ev → Rs (List PyData)) (g : PyData → Ev → Rs Ev) (b : Ev → Rs Out) : sFor it g b ρ = (it ρ).bind fun ds => forGo g b ds ρ := rfl
@[simp] theorem z_frz (i : Nat) (g : Ev → Rs Out) : sFrz i g ρ = (match ρ[i]? with | some (some (true, .list ds)) => g (ρ.set i (some (false, .list ds))) | some (some (false, _)) => g ρ | _ => .bad) := rfl
@[simp] theorem z_mut (i : Nat) (m : List PyData → List PyData → Rs (List PyData)) (fs : Ev → Rs (List PyData)) : sMut i m fs ρ = (match ρ[i]? with | some (some (true, .list ds)) => (fs ρ).bind fun as => (m ds as).bind fun ds' => .ok (.nx (ρ.set i (some (true, .list ds')))) | _ => .bad) := rfl
@[simp] theorem z_while (n : Nat) (c : Ev → Rs Bool) (b : Ev → Rs Out) : sWhile n c b ρ = whileGo c b n ρ := rfl
@[simp] theorem z_raise (c : Str) : sRaise c ρ = .err c := rfl
@[simp] theorem z_brk : sBrk ρ = .ok (.brk ρ) := rfl
@[simp] theorem z_cnt : sCnt ρ = .ok (.cnt ρ) := rfl
@[simp] theorem z_drop (f : Ev → Rs PyData) : sDrop f ρ = (f ρ).bind fun _ => .ok (.nx ρ) := rfl
@[simp] theorem z_rg1 (f : Ev → Rs PyData) : rg1D f ρ = (f ρ).bind fun | .int i => @ite _ (rgOk 0 i = true) (Classical.propDecidable _) (.ok ((0 : Int), i)) .bad | _ => .bad := rfl
@[simp] theorem z_iRg (f : Ev → Rs (Int × Int)) : iRg f ρ = (f ρ).bind fun z => .ok (rgD z.1 z.2) := rfl
@[simp] theorem z_items (f : Ev → Rs PyData) : iItems f ρ = (f ρ).bind itemsD := rfl
@[simp] theorem z_enum (f : Ev → Rs PyData) : iEnumD f ρ = (f ρ).bind fun d => (itemsD d).bind fun ds => .ok (enumG 0 ds) := rfl
@[simp] theorem z_zip (f : Ev → Rs (List PyData)) : iZipD f ρ = (f ρ).bind fun | [.tuple as, .tuple bs] => .ok (zipD as bs) | [.list as, .list bs] => .ok (zipD as bs) | _ => .bad := rfl
@[simp] theorem z_tupR (f : Ev → Rs (Int × Int)) : eTupR f ρ = (f ρ).bind fun z => .ok (.tuple (rgD z.1 z.2)) := rfl
@[simp] theorem z_lRg (f : Ev → Rs (Int × Int)) : lRg f ρ = (f ρ).bind fun z => .ok (rgD z.1 z.2) := rfl
@[simp] theorem z_lList (f : Ev → Rs PyData) : lList f ρ = (f ρ).bind itemsD := rfl
@[simp] theorem z_lLc (vs : List Nat) (it : Ev → Rs (List PyData)) (g : PyData → Ev → Rs Ev) (tt : Ev → Rs Bool) (fe : Ev → Rs PyData) : lLc vs it g tt fe ρ = (it ρ).bind fun ds => cap (lcAll (bd1 g tt fe (wipeE ρ vs)) ds) := rfl
@[simp] theorem z_lLc2 (vs vs1 : List Nat) (it : Ev → Rs (List PyData)) (g : PyData → Ev → Rs Ev) (tt : Ev → Rs Bool) (it1 : Ev → Rs (List PyData)) (g1 : PyData → Ev → Rs Ev) (tt1 : Ev → Rs Bool) (fe : Ev → Rs PyData) : lLc2 vs vs1 it g tt it1 g1 tt1 fe ρ = (it ρ).bind fun ds => cap (lcAll (bd2 vs1 g tt it1 g1 tt1 fe (wipeE ρ vs)) ds) := rfl
@[simp] theorem z_bd1 (g : PyData → Ev → Rs Ev) (tt : Ev → Rs Bool) (fe : Ev → Rs PyData) (d : PyData) : bd1 g tt fe ρ d = (g d ρ).bind fun ρ1 => (tt ρ1).bind fun b => if b = true then (fe ρ1).bind fun y => .ok [y] else .ok [] := rfl
@[simp] theorem z_bd2 (vs1 : List Nat) (g : PyData → Ev → Rs Ev) (tt : Ev → Rs Bool) (it1 : Ev → Rs (List PyData)) (g1 : PyData → Ev → Rs Ev) (tt1 : Ev → Rs Bool) (fe : Ev → Rs PyData) (d : PyData) : bd2 vs1 g tt it1 g1 tt1 fe ρ d = (g d ρ).bind fun ρ1 => (tt ρ1).bind fun b => if b = true then (it1 ρ1).bind fun es => lcAll (bd1 g1 tt1 fe (wipeE ρ1 vs1)) es else .ok [] := rfl
@[simp] theorem z_tY : tY ρ = .ok true := rfl
@[simp] theorem z_part (f : Ev → Rs PyData) : ePart f ρ = (f ρ).bind fun | .int i => .ok (some i) | _ => .bad := rfl
@[simp] theorem z_noPart : eNoPart ρ = .ok none := rfl
@[simp] theorem z_sl (f : Ev → Rs PyData) (a b : Ev → Rs (Option Int)) : eSl f a b ρ = ((f ρ).bind fun d => (a ρ).bind fun l => (b ρ).bind fun h => Rs.ok (d, l, h)).bind fun z => slD z.1 z.2.1 z.2.2 := rfl
@[simp] theorem z_setIx (i : Nat) (fe fj : Ev → Rs PyData) : sSetIx i fe fj ρ = (fe ρ).bind fun v => (match ρ[i]? with
  | some (some (true, .list ds)) => (fj ρ).bind fun
    | .int j => match ixN ds.length j with
      | some n => .ok (.nx (ρ.set i (some (true, .list (ds.set n v)))))
      | none => .bad
    | _ => .bad
  | _ => .bad) := rfl
@[simp] theorem z_wipe0 : wipeE ρ [] = ρ := rfl
@[simp] theorem z_wipe1 (v : Nat) (vs : List Nat) : wipeE ρ (v :: vs) = (wipeE ρ vs).set v none := rfl
end
@[simp] theorem z_fn (n : Nat) (b : Ev → Rs Out) (ds : List PyData) : fn n b ds = (b (start0 n ds)).bind fun | .nx _ => .ok .none | .ret d => .ok d | _ => .bad := rfl
@[simp] theorem z_start (n : Nat) (ds : List PyData) : start0 n ds = ds.map (fun d => some (false, d)) ++ List.replicate (n - ds.length) none := rfl
/-! ### single operations -/
@[simp] theorem q_add (i j : Int) : addD (.int i) (.int j) = .ok (.int (i + j)) := rfl
@[simp] theorem q_sub (i j : Int) : subD (.int i) (.int j) = .ok (.int (i - j)) := rfl
theorem q_addT {a b : List PyData} (h : a.length + b.length ≤ lim) : addD (.tuple a) (.tuple b) = .ok (.tuple (a ++ b)) := if_pos h
theorem q_addL {a b : List PyData} (h : a.length + b.length ≤ lim) : addD (.list a) (.list b) = .ok (.list (a ++ b)) := if_pos h
theorem q_mul {i j : Int} (h1 : wide i = true) (h2 : wide j = true) : mulD (.int i) (.int j) = .ok (.int (i * j)) := by
  show (@ite _ ((wide i && wide j) = true) (Classical.propDecidable _) _ _) = _
  exact if_pos (by rw [h1, h2]; rfl)
theorem wide_of {i : Int} {n : Nat} (h : i.natAbs < 2 ^ n) (hn : n ≤ 9000) (h0 : 0 < n := by decide) : wide i = true := decide_eq_true (Nat.lt_of_lt_of_le (PySem.Flt.log2_lt_of h0 h) hn)
theorem wide_small {i : Int} (h1 : -(2 ^ 200) < i) (h2 : i < 2 ^ 200) : wide i = true := wide_of (n := 200) (by omega) (by decide)
theorem q_mod {i j : Int} (h : 0 < j) : modD (.int i) (.int j) = .ok (.int (i % j)) := by
  show (@ite _ (decide (0 < j) = true) (Classical.propDecidable _) _ _) = _
  exact if_pos (decide_eq_true h)
theorem q_div {i j : Int} (h : 0 < j) (h2 : wide j = true) : divD (.int i) (.int j) = .ok (.int (i / j)) := by
  show (@ite _ ((decide (0 < j) && wide j) = true) (Classical.propDecidable _) _ _) = _
  exact if_pos (by rw [decide_eq_true h, h2]; rfl)
theorem q_divmod {i j : Int} (h : 0 < j) (h2 : wide j = true) : divmodD [.int i, .int j] = .ok (.tuple [.int (i / j), .int (i % j)]) := by
  show (@ite _ ((decide (0 < j) && wide j) = true) (Classical.propDecidable _) _ _) = _
  exact if_pos (by rw [decide_eq_true h, h2]; rfl)
theorem q_pow {i j : Int} (h0 : 0 ≤ j) (h1 : j ≤ 1000000) (h2 : i.natAbs < 2 ^ 64) : powD (.int i) (.int j) = .ok (.int (i ^ j.toNat)) := by
  show (@ite _ ((decide (0 ≤ j) && decide (j ≤ 1000000) && decide (i.natAbs < 2 ^ 64)) = true) (Classical.propDecidable _) _ _) = _
  exact if_pos (by rw [decide_eq_true h0, decide_eq_true h1, decide_eq_true h2]; rfl)
@[simp] theorem q_lt (i j : Int) : ltD (.int i) (.int j) = .ok (.bool (decide (i < j))) := rfl
@[simp] theorem q_gt (i j : Int) : gtD (.int i) (.int j) = .ok (.bool (decide (j < i))) := rfl
@[simp] theorem q_le (i j : Int) : leD (.int i) (.int j) = .ok (.bool (decide (i ≤ j))) := rfl
@[simp] theorem q_ge (i j : Int) : geD (.int i) (.int j) = .ok (.bool (decide (j ≤ i))) := rfl
@[simp] theorem q_eqI (i j : Int) : eqD (.int i) (.int j) = .ok (.bool (i == j)) := if_pos rfl
@[simp] theorem q_neI (i j : Int) : neD (.int i) (.int j) = .ok (.bool (!(i == j))) := if_pos rfl
theorem q_eq {d e : PyData} (h1 : SeqAt.shaped d = true) (h2 : SeqAt.shaped e = true) : eqD d e = .ok (.bool (PyData.eqv d e)) := by
  unfold eqD
  exact if_pos (by rw [h1, h2]; rfl)
theorem q_ne {d e : PyData} (h1 : SeqAt.shaped d = true) (h2 : SeqAt.shaped e = true) : neD d e = .ok (.bool (!PyData.eqv d e)) := by
  unfold neD
  exact if_pos (by rw [h1, h2]; rfl)
@[simp] theorem q_is (d : PyData) : isD d .none = .ok (.bool (isNoneD d)) := rfl
@[simp] theorem q_isNot (d : PyData) : isNotD d .none = .ok (.bool (!isNoneD d)) := rfl
@[simp] theorem q_isN0 : isNoneD .none = true := rfl
@[simp] theorem q_isN1 (ds : List PyData) : isNoneD (.tuple ds) = false := rfl
@[simp] theorem q_isN2 (ds : List PyData) : isNoneD (.list ds) = false := rfl
@[simp] theorem q_isN3 (i : Int) : isNoneD (.int i) = false := rfl
@[simp] theorem q_lenL (ds : List PyData) : lenD [.list ds] = .ok (.int ds.length) := rfl
@[simp] theorem q_lenT (ds : List PyData) : lenD [.tuple ds] = .ok (.int ds.length) := rfl
@[simp] theorem q_lenS (ds : List PyData) : lenD [scrD ds] = .ok (.int ds.length) := rfl
@[simp] theorem q_tupL (ds : List PyData) : tupleD [.list ds] = .ok (.tuple ds) := rfl
@[simp] theorem q_tupT (ds : List PyData) : tupleD [.tuple ds] = .ok (.tuple ds) := rfl
@[simp] theorem q_itL (ds : List PyData) : itemsD (.list ds) = .ok ds := rfl
@[simp] theorem q_itT (ds : List PyData) : itemsD (.tuple ds) = .ok ds := rfl
@[simp] theorem q_itS (ds : List PyData) : itemsD (scrD ds) = .ok ds := rfl
@[simp] theorem q_max (i j : Int) : max2D [.int i, .int j] = .ok (.int (if j > i then j else i)) := rfl
@[simp] theorem q_min (i j : Int) : min2D [.int i, .int j] = .ok (.int (if j < i then j else i)) := rfl
@[simp] theorem q_abs (i : Int) : absD [.int i] = .ok (.int (if i < 0 then -i else i)) := rfl
@[simp] theorem q_int (i : Int) : intOfD [.int i] = .ok (.int i) := rfl
@[simp] theorem q_intB (b : Bool) : intOfD [.bool b] = .ok (.int (if b then 1 else 0)) := rfl
@[simp] theorem q_neg (i : Int) : negD (.int i) = .ok (.int (-i)) := rfl
@[simp] theorem q_revT (ds : List PyData) : revTD (.tuple ds) = .ok (.tuple ds.reverse) := rfl
@[simp] theorem q_revL (ds : List PyData) : revLD (.list ds) = .ok (.list ds.reverse) := rfl
@[simp] theorem q_slT (ds : List PyData) (lo hi : Option Int) : slD (.tuple ds) lo hi = .ok (.tuple (cutD ds lo hi)) := rfl
@[simp] theorem q_slL (ds : List PyData) (lo hi : Option Int) : slD (.list ds) lo hi = .ok (.list (cutD ds lo hi)) := rfl
theorem q_sum (ns : List Int) : sumD [.list (ns.map PyData.int)] = .ok (.int ns.sum) := by
  show (match asInts (ns.map PyData.int) with | some ns => Rs.ok (PyData.int ns.sum) | none => .bad) = _
  rw [asInts_map]
theorem q_all (bs : List Bool) : allD [.list (bs.map PyData.bool)] = .ok (.bool (bs.all id)) := by
  show (match asBools (bs.map PyData.bool) with | some ns => Rs.ok (PyData.bool (ns.all id)) | none => .bad) = _
  rw [asBools_map]
theorem q_app {ds : List PyData} {y : PyData} (h : ds.length < lim) : appM ds [y] = .ok (ds ++ [y]) := if_pos h
theorem q_ext {ds es : List PyData} (h : ds.length + es.length ≤ lim) : extM ds [.list es] = .ok (ds ++ es) := if_pos h
theorem q_ixT {ds : List PyData} {i : Int} {z : PyData} (h : atI ds i = some z) : ixD (.tuple ds) (.int i) = .ok z := by
  show (match atI ds i with | some z => Rs.ok z | none => .bad) = _
  rw [h]
theorem q_ixL {ds : List PyData} {i : Int} {z : PyData} (h : atI ds i = some z) : ixD (.list ds) (.int i) = .ok z := by
  show (match atI ds i with | some z => Rs.ok z | none => .bad) = _
  rw [h]
theorem q_ixS {ds : List PyData} {i : Int} {z : PyData} (h : atI ds i = some z) : ixD (scrD ds) (.int i) = .ok z := by
  show (match atI ds i with | some z => Rs.ok z | none => .bad) = _
  rw [h]
theorem at_get {α : Type} {xs : List α} {i : Nat} {x : α} (h : xs[i]? = some x) : atI xs (i : Int) = some x := by
  have hi := (List.getElem?_eq_some_iff.mp h).1
  unfold atI ixN
  rw [if_pos (by omega), if_pos (by omega), Int.toNat_natCast]
  exact h
theorem at_int {α : Type} {xs : List α} {i : Int} {x : α} (h0 : 0 ≤ i) (h : xs[i.toNat]? = some x) : atI xs i = some x := by
  have := at_get h
  rw [show ((i.toNat : Nat) : Int) = i by omega] at this
  exact this
theorem rgOk0 {i : Int} (h0 : 0 ≤ i) (h1 : i ≤ 16777216) : rgOk 0 i = true := by
  unfold rgOk
  rw [decide_eq_true (by decide), decide_eq_true (by decide), decide_eq_true (by omega), decide_eq_true (by omega), decide_eq_true (by omega)]
  rfl
theorem rgD0 (i : Int) : rgD 0 i = (iota i).map PyData.int := by
  unfold rgD iota
  rw [Int.sub_zero, List.map_map]
  refine List.map_congr_left fun j _ => ?_
  show PyData.int (0 + (j : Int)) = PyData.int (j : Int)
  rw [Int.zero_add]
theorem cap_le {ds : List PyData} (h : ds.length ≤ lim) : cap (.ok ds) = .ok ds := if_pos h
/-! ### loops -/
/-- one turn -/
def turn (g : PyData → Ev → Rs Ev) (b : Ev → Rs Out) (d : PyData) (ρ : Ev) : Rs Out := okE (g d ρ) b
theorem for_inv {g : PyData → Ev → Rs Ev} {b : Ev → Rs Out} (P : Nat → Ev → Prop) : ∀ {ds : List PyData} {k : Nat} {ρ : Ev}, P k ρ → (∀ (i : Nat) d ρ, ds[i]? = some d → P (k + i) ρ → ∃ ρ', turn g b d ρ = .ok (.nx ρ') ∧ P (k + i + 1) ρ') → ∃ ρ', forGo g b ds ρ = .ok (.nx ρ') ∧ P (k + ds.length) ρ'
  | [], k, ρ, h0, hs => ⟨ρ, rfl, h0⟩
  | d :: ds, k, ρ, h0, hs => by
    obtain ⟨ρ1, e1, p1⟩ := hs 0 d ρ rfl h0
    obtain ⟨ρ2, e2, p2⟩ := for_inv P (ds := ds) (k := k + 1) (ρ := ρ1) p1 fun i d' ρ' h p => by
      have := hs (i + 1) d' ρ' h (by rw [show k + (i + 1) = k + 1 + i by omega]; exact p)
      rw [show k + (i + 1) + 1 = k + 1 + i + 1 by omega] at this
      exact this
    refine ⟨ρ2, ?_, by rw [show k + (d :: ds).length = k + 1 + ds.length by rw [List.length_cons]; omega]; exact p2⟩
    unfold turn at e1
    show okE (g d ρ) (fun ρ1 => (b ρ1).bind _) = _
    cases q : g d ρ with
    | bad => rw [q] at e1; cases e1
    | err c => rw [q] at e1; cases e1
    | ok ρ0 =>
      rw [q] at e1
      show (b ρ0).bind _ = _
      rw [show b ρ0 = .ok (.nx ρ1) from e1]
      exact e2
/-- it goes on, to what P says -/
def Stp (r : Rs Out) (P : Ev → Prop) : Prop := match r with
  | .ok (.nx ρ) => P ρ
  | _ => False
@[simp] theorem stp_nx (ρ : Ev) (P : Ev → Prop) : Stp (.ok (.nx ρ)) P = P ρ := rfl
theorem Stp.ex {r : Rs Out} {P : Ev → Prop} (h : Stp r P) : ∃ ρ, r = .ok (.nx ρ) ∧ P ρ := by
  unfold Stp at h
  split at h
  · exact ⟨_, rfl, h⟩
  · exact h.elim
@[simp] theorem z_turn (g : PyData → Ev → Rs Ev) (b : Ev → Rs Out) (d : PyData) (ρ : Ev) : turn g b d ρ = okE (g d ρ) b := rfl
/-- a for whose turns all go on -/
theorem for_all {g : PyData → Ev → Rs Ev} {b : Ev → Rs Out} {ds : List PyData} {ρ : Ev} (P : Nat → Ev → Prop) (h0 : P 0 ρ) (hs : ∀ (i : Nat) d ρ, ds[i]? = some d → P i ρ → Stp (turn g b d ρ) (P (i + 1))) : ∃ ρ', forGo g b ds ρ = .ok (.nx ρ') ∧ P ds.length ρ' := by
  obtain ⟨ρ', e, p⟩ := for_inv P (ds := ds) (k := 0) h0 fun i d ρ h p => by
    rw [Nat.zero_add] at p ⊢
    exact (hs i d ρ h p).ex
  rw [Nat.zero_add] at p
  exact ⟨ρ', e, p⟩
theorem for_eq {α : Type} {g : PyData → Ev → Rs Ev} {b : Ev → Rs Out} {ds : List PyData} {ρ : Ev} {K : Out → Rs α} {R : Rs α} (P : Nat → Ev → Prop) (h0 : P 0 ρ) (hs : ∀ (i : Nat) d ρ, ds[i]? = some d → P i ρ → Stp (turn g b d ρ) (P (i + 1))) (hk : ∀ ρ', P ds.length ρ' → K (.nx ρ') = R) : (forGo g b ds ρ).bind K = R := by
  obtain ⟨ρ', e, p⟩ := for_all P h0 hs
  rw [e]
  exact hk ρ' p
theorem for_stp {g : PyData → Ev → Rs Ev} {b : Ev → Rs Out} {ds : List PyData} {ρ : Ev} {K : Out → Rs Out} {R : Ev → Prop} (P : Nat → Ev → Prop) (h0 : P 0 ρ) (hs : ∀ (i : Nat) d ρ, ds[i]? = some d → P i ρ → Stp (turn g b d ρ) (P (i + 1))) (hk : ∀ ρ', P ds.length ρ' → Stp (K (.nx ρ')) R) : Stp ((forGo g b ds ρ).bind K) R := by
  obtain ⟨ρ', e, p⟩ := for_all P h0 hs
  rw [e]
  exact hk ρ' p
theorem for_stp1 {g : PyData → Ev → Rs Ev} {b : Ev → Rs Out} {ds : List PyData} {ρ : Ev} {R : Ev → Prop} (P : Nat → Ev → Prop) (h0 : P 0 ρ) (hs : ∀ (i : Nat) d ρ, ds[i]? = some d → P i ρ → Stp (turn g b d ρ) (P (i + 1))) (hk : ∀ ρ', P ds.length ρ' → R ρ') : Stp (forGo g b ds ρ) R := by
  obtain ⟨ρ', e, p⟩ := for_all P h0 hs
  rw [e]
  exact hk ρ' p
/-- a while of m turns -/
theorem while_all {c : Ev → Rs Bool} {b : Ev → Rs Out} (P : Nat → Ev → Prop) {m : Nat} (hs : ∀ i ρ, i < m → P i ρ → c ρ = .ok true ∧ Stp (b ρ) (P (i + 1))) (he : ∀ ρ, P m ρ → c ρ = .ok false) : ∀ {n i : Nat} {ρ : Ev}, i ≤ m → m < i + n → P i ρ → ∃ ρ', whileGo c b n ρ = .ok (.nx ρ') ∧ P m ρ'
  | 0, i, ρ, h1, h2, _ => by omega
  | n + 1, i, ρ, h1, h2, p => by
    show ∃ ρ', (c ρ).bind _ = _ ∧ _
    by_cases hi : i = m
    · subst hi
      rw [he ρ p]
      exact ⟨ρ, rfl, p⟩
    · obtain ⟨e1, st⟩ := hs i ρ (by omega) p
      obtain ⟨ρ1, e2, p1⟩ := st.ex
      rw [e1, bind_ok', if_pos rfl, e2]
      exact while_all P hs he (n := n) (i := i + 1) (by omega) (by omega) p1
theorem lc_map {bd : PyData → Rs (List PyData)} {h : PyData → PyData} : ∀ {ds : List PyData}, (∀ d ∈ ds, bd d = .ok [h d]) → lcAll bd ds = .ok (ds.map h)
  | [], _ => rfl
  | d :: ds, k => by
    show (bd d).bind _ = _
    rw [k d List.mem_cons_self, bind_ok', lc_map (ds := ds) fun x hx => k x (List.mem_cons_of_mem _ hx)]
    rfl
theorem lc_flat {bd : PyData → Rs (List PyData)} {h : PyData → List PyData} : ∀ {ds : List PyData}, (∀ d ∈ ds, bd d = .ok (h d)) → lcAll bd ds = .ok (ds.flatMap h)
  | [], _ => rfl
  | d :: ds, k => by
    show (bd d).bind _ = _
    rw [k d List.mem_cons_self, bind_ok', lc_flat (ds := ds) fun x hx => k x (List.mem_cons_of_mem _ hx)]
    rfl
/-- over things of a type of its own -/
theorem lc_mapE {α β : Type} {enc : α → PyData} {out : β → PyData} {bd : PyData → Rs (List PyData)} {h : α → β} {xs : List α} (k : ∀ x ∈ xs, bd (enc x) = .ok [out (h x)]) : lcAll bd (xs.map enc) = .ok ((xs.map h).map out) := by
  induction xs with
  | nil => rfl
  | cons x xs ih =>
    show (bd (enc x)).bind _ = _
    rw [k x List.mem_cons_self, bind_ok', ih fun y hy => k y (List.mem_cons_of_mem _ hy)]
    rfl
theorem lc_flatE {α : Type} {enc : α → PyData} {bd : PyData → Rs (List PyData)} {h : α → List PyData} {xs : List α} (k : ∀ x ∈ xs, bd (enc x) = .ok (h x)) : lcAll bd (xs.map enc) = .ok (xs.flatMap h) := by
  induction xs with
  | nil => rfl
  | cons x xs ih =>
    show (bd (enc x)).bind _ = _
    rw [k x List.mem_cons_self, bind_ok', ih fun y hy => k y (List.mem_cons_of_mem _ hy)]
    rfl
noncomputable def F_how_many_of_tray : List PyData → Rs PyData := fn 5 (sSeq (sSet 2 (eCB max2D (aCons (eC (.int 0)) (aCons (eVar 1) aNil))))
      (sSeq (sSet 3 (eC (.int 1)))
      (sSeq (sFor (iRg (rg1D (eVar 0))) (gN 4)
      (sSet 3 (e2 mulD (eVar 3) (eVar 2))))
      (sRet (eVar 3)))))
noncomputable def F_how_many : List PyData → Rs PyData := fn 3 (sRet (eCB sumD (aCons (eL (lLc [2] (iItems (eVar 0)) (gN 2) tY (eCall F_how_many_of_tray (aCons (eVar 2) (aCons (eVar 1) aNil))))) aNil)))
noncomputable def F_rising_things : List PyData → Rs PyData := fn 6 (sSeq (sSet 2 (eL (aCons (eTup aNil) aNil)))
      (sSeq (sFor (iRg (rg1D (eVar 0))) (gN 3)
      (sSet 2 (eL (lLc2 [4, 5] [5] (iItems (eVar 2)) (gN 4) tY (iRg (rg1D (eVar 1))) (gN 5) tY (e2 addD (eVar 4) (eTup (aCons (eVar 5) aNil)))))))
      (sRet (eVar 2))))
noncomputable def F_all_fillings : List PyData → Rs PyData := fn 6 (sSeq (sIf (tB' (e2 gtD (eCall F_how_many (aCons (eVar 0) (aCons (eVar 1) aNil))) (eC (.int 2000))))
      (sRaise "TooMany")
      sNil)
      (sSeq (sSetO 2 aNil)
      (sSeq (sFor (iEnumD (eVar 0)) (gT 2 (gsC (gN 3) (gsC (gN 4) gsN)))
      (sFor (iItems (eCall F_rising_things (aCons (eVar 4) (aCons (eVar 1) aNil)))) (gN 5)
      (sMut 2 appM (aCons (eTup (aCons (eVar 3) (aCons (eVar 5) aNil))) aNil))))
      (sFrz 2 (sRet (eVar 2))))))
noncomputable def F_things_at : List PyData → Rs PyData := fn 6 (sSeq (sSetO 3 aNil)
      (sSeq (sFor (iRg (rg1D (eVar 0))) (gN 4)
      (sSeq (sAsg (eCB divmodD (aCons (eVar 2) (aCons (eVar 1) aNil))) (gT 2 (gsC (gN 2) (gsC (gN 5) gsN))))
      (sMut 3 appM (aCons (eVar 5) aNil))))
      (sRet (eCB tupleD (aCons (e1 revLD (eVarR 3)) aNil)))))
noncomputable def F_filling_at : List PyData → Rs PyData := fn 4 (sSeq (sSet 3 (eC (.int 0)))
      (sSeq (sWhile 100000 (tB' (e2 geD (eVar 2) (eCall F_how_many_of_tray (aCons (e2 ixD (eVar 0) (eVar 3)) (aCons (eVar 1) aNil)))))
      (sSeq (sSet 2 (e2 subD (eVar 2) (eCall F_how_many_of_tray (aCons (e2 ixD (eVar 0) (eVar 3)) (aCons (eVar 1) aNil)))))
      (sSet 3 (e2 addD (eVar 3) (eC (.int 1))))))
      (sRet (eTup (aCons (eVar 3) (aCons (eCall F_things_at (aCons (e2 ixD (eVar 0) (eVar 3)) (aCons (eVar 1) (aCons (eVar 2) aNil)))) aNil))))))
noncomputable def F_place_of : List PyData → Rs PyData := fn 7 (sSeq (sAsg (eVar 2) (gT 2 (gsC (gN 3) (gsC (gN 4) gsN))))
      (sSeq (sSet 5 (eC (.int 0)))
      (sSeq (sFor (iItems (eVar 4)) (gN 6)
      (sSet 5 (e2 addD (e2 mulD (eVar 5) (eVar 1)) (eVar 6))))
      (sRet (e2 addD (eCall F_how_many (aCons (eSl (eVar 0) eNoPart (ePart (eVar 3))) (aCons (eVar 1) aNil))) (eVar 5))))))
noncomputable def F_is_whole : List PyData → Rs PyData := fn 1 (sRet (eAnd (e1 (isiD "int") (eVar 0)) (eNot (e1 (isiD "bool") (eVar 0)))))
noncomputable def F_is_below : List PyData → Rs PyData := fn 2 (sRet (eAnd (eCall F_is_whole (aCons (eVar 0) aNil)) (eChain leD ltD (eC (.int 0)) (eVar 0) (eVar 1))))
noncomputable def F_is_crate : List PyData → Rs PyData := fn 2 (sSeq (sIf (tOr' (tNot' (tB' (e1 (isiD "tuple") (eVar 0)))) (tB' (e2 gtD (eCB lenD (aCons (eVar 0) aNil)) (eC (.int 60)))))
      (sRet (eC (.bool false)))
      sNil)
      (sRet (eCB allD (aCons (eL (lLc [1] (iItems (eVar 0)) (gN 1) tY (eCall F_is_below (aCons (eVar 1) (aCons (e2 addD (eC (.int 12)) (eC (.int 1))) aNil))))) aNil))))
noncomputable def F_bounded : List PyData → Rs PyData := fn 1 (sSeq (sIf (tNot' (tB' (eCall F_is_crate (aCons (eVar 0) aNil))))
      (sRaise "TooBig")
      sNil)
      (sRet (eVar 0)))
noncomputable def F_put : List PyData → Rs PyData := fn 6 (sSeq (sIf (tB' (e2 gtD (eCall F_how_many (aCons (eVar 0) (aCons (eCB lenD (aCons (eVar 1) aNil)) aNil))) (eC (.int 60))))
      (sRaise "TooBig")
      sNil)
      (sSeq (sSet 2 (eCall F_all_fillings (aCons (eVar 0) (aCons (eCB lenD (aCons (eVar 1) aNil)) aNil))))
      (sRet (eCall F_bounded (aCons (eCB tupleD (aCons (eL (lLc [3, 4] (iItems (eVar 2)) (gT 2 (gsC (gN 3) (gsC (gN 4) gsN))) tY (eCB sumD (aCons (eL (lLc [5] (iItems (eVar 4)) (gN 5) tY (e2 ixD (eVar 1) (eVar 5)))) aNil)))) aNil)) aNil)))))
noncomputable def F_packed : List PyData → Rs PyData := fn 10 (sSeq (sAsg (eVar 2) (gT 2 (gsC (gN 3) (gsC (gN 4) gsN))))
      (sSeq (sSet 5 (eCB tupleD (aCons (eL (lLc [7, 8] (iItems (eVar 4)) (gT 2 (gsC (gN 7) (gsC (gN 8) gsN))) tY (eVar 7))) aNil)))
      (sSeq (sSet 6 (eCall F_place_of (aCons (eVar 0) (aCons (eCB lenD (aCons (eVar 1) aNil)) (aCons (eTup (aCons (eVar 3) (aCons (eVar 5) aNil))) aNil)))))
      (sRet (eTup (aCons (eVar 6) (aCons (eCB tupleD (aCons (eL (lLc2 [7, 8, 9] [9] (iItems (eVar 4)) (gT 2 (gsC (gN 7) (gsC (gN 8) gsN))) tY (iItems (eVar 8)) (gN 9) tY (eVar 9))) aNil)) aNil)))))))
noncomputable def F_unpacked : List PyData → Rs PyData := fn 9 (sSeq (sAsg (eVar 2) (gT 2 (gsC (gN 3) (gsC (gN 4) gsN))))
      (sSeq (sAsg (eCall F_filling_at (aCons (eVar 0) (aCons (eCB lenD (aCons (eVar 1) aNil)) (aCons (eVar 3) aNil)))) (gT 2 (gsC (gN 5) (gsC (gN 6) gsN))))
      (sSeq (sSetO 7 aNil)
      (sSeq (sFor (iItems (eVar 6)) (gN 8)
      (sSeq (sMut 7 appM (aCons (eTup (aCons (eVar 8) (aCons (eSl (eVar 4) eNoPart (ePart (e2 ixD (eVar 1) (eVar 8)))) aNil))) aNil))
      (sSet 4 (eSl (eVar 4) (ePart (e2 ixD (eVar 1) (eVar 8))) eNoPart))))
      (sRet (eTup (aCons (eVar 5) (aCons (eCB tupleD (aCons (eVarR 7) aNil)) aNil))))))))
noncomputable def F_law_cell : List PyData → Rs PyData := fn 3 (sSeq (sIf (tB' (e2 ltD (eVar 1) (eCB lenD (aCons (eVar 0) aNil))))
      (sRet (e2 modD (e2 ixD (eVar 0) (eVar 1)) (e2 powD (eC (.int 10)) (eC (.int 18)))))
      sNil)
      (sSeq (sSet 2 (e2 addD (eC (.int 17)) (e2 mulD (e2 mulD (eC (.int 7)) (eVar 1)) (eVar 1))))
      (sSeq (sIf (tB' (e2 gtD (eCB lenD (aCons (eVar 0) aNil)) (eC (.int 0))))
      (sSet 2 (e2 addD (eVar 2) (e2 mulD (e2 modD (e2 ixD (eVar 0) (e2 modD (eVar 1) (eCB lenD (aCons (eVar 0) aNil)))) (eC (.int 1000003))) (e2 addD (eVar 1) (eC (.int 5))))))
      sNil)
      (sRet (e2 divD (e2 modD (e2 mulD (eVar 2) (eC (.int 48271))) (eC (.int 2147483647))) (eC (.int 3)))))))
noncomputable def F_law_crate : List PyData → Rs PyData := fn 5 (sSeq (sSetO 3 aNil)
      (sSeq (sFor (iRg (rg1D (e2 modD (eVar 0) (e2 addD (eVar 1) (eC (.int 1)))))) (gN 4)
      (sMut 3 appM (aCons (e2 modD (e2 divD (eVar 0) (e2 addD (eC (.int 7)) (e2 mulD (e2 mulD (eC (.int 5)) (eVar 4)) (e2 addD (eVar 4) (eC (.int 1)))))) (e2 addD (eVar 2) (eC (.int 1)))) aNil)))
      (sRet (eCB tupleD (aCons (eVarR 3) aNil)))))
noncomputable def F_plain : List PyData → Rs PyData := fn 2 (sRet (eTup (aCons (eVar 1) (aCons (eTupR (rg1D (e2 ixD (eVar 0) (eVar 1)))) aNil))))
noncomputable def F_is_pair : List PyData → Rs PyData := fn 1 (sRet (eAnd (e1 (isiD "tuple") (eVar 0)) (e2 eqD (eCB lenD (aCons (eVar 0) aNil)) (eC (.int 2)))))
noncomputable def F_fits : List PyData → Rs PyData := fn 4 (sSeq (sIf (tNot' (tB' (eCall F_is_pair (aCons (eVar 1) aNil))))
      (sRet (eC (.bool false)))
      sNil)
      (sSeq (sAsg (eVar 1) (gT 2 (gsC (gN 2) (gsC (gN 3) gsN))))
      (sSeq (sIf (tNot' (tB' (eCall F_is_below (aCons (eVar 2) (aCons (eCB lenD (aCons (eVar 0) aNil)) aNil)))))
      (sRet (eC (.bool false)))
      sNil)
      (sRet (eAnd (e1 (isiD "tuple") (eVar 3)) (e2 eqD (eCB lenD (aCons (eVar 3) aNil)) (e2 ixD (eVar 0) (eVar 2))))))))
noncomputable def F_leads : List PyData → Rs PyData := fn 4 (sRet (eAnd (eCall F_fits (aCons (eVar 1) (aCons (eVar 2) aNil))) (eCB allD (aCons (eL (lLc [3] (iItems (e2 ixD (eVar 2) (eC (.int 1)))) (gN 3) tY (eCall F_is_below (aCons (eVar 3) (aCons (eVar 0) aNil))))) aNil))))
noncomputable def F_is_table : List PyData → Rs PyData := fn 5 (sSeq (sIf (tOr' (tNot' (tB' (e1 (isiD "tuple") (eVar 2)))) (tB' (e2 neD (eCB lenD (aCons (eVar 2) aNil)) (eCB lenD (aCons (eVar 0) aNil)))))
      (sRet (eC (.bool false)))
      sNil)
      (sRet (eCB allD (aCons (eL (lLc [3, 4] (iZipD (aCons (eVar 0) (aCons (eVar 2) aNil))) (gT 2 (gsC (gN 3) (gsC (gN 4) gsN))) tY (eCall F_leads (aCons (eVar 3) (aCons (eVar 1) (aCons (eVar 4) aNil)))))) aNil))))
noncomputable def F_is_way : List PyData → Rs PyData := fn 3 (sRet (eAnd (eCall F_is_crate (aCons (eVar 0) aNil)) (eAnd (eCall F_is_crate (aCons (eVar 1) aNil)) (eCall F_is_table (aCons (eVar 0) (aCons (eVar 1) (aCons (eVar 2) aNil)))))))
noncomputable def F_turned : List PyData → Rs PyData := fn 7 (sSeq (sAsg (eVar 1) (gT 2 (gsC (gN 2) (gsC (gN 3) gsN))))
      (sSeq (sAsg (e2 ixD (eVar 0) (eVar 2)) (gT 2 (gsC (gN 4) (gsC (gN 5) gsN))))
      (sRet (eTup (aCons (eVar 4) (aCons (eCB tupleD (aCons (eL (lLc [6] (iItems (eVar 5)) (gN 6) tY (e2 ixD (eVar 3) (eVar 6)))) aNil)) aNil))))))
noncomputable def F_idle : List PyData → Rs PyData := fn 2 (sRet (eCB tupleD (aCons (eL (lLc [1] (iRg (rg1D (eCB lenD (aCons (eVar 0) aNil)))) (gN 1) tY (eCall F_plain (aCons (eVar 0) (aCons (eVar 1) aNil))))) aNil)))
noncomputable def F_after : List PyData → Rs PyData := fn 3 (sRet (eCB tupleD (aCons (eL (lLc [2] (iItems (eVar 0)) (gN 2) tY (eCall F_turned (aCons (eVar 1) (aCons (eVar 2) aNil))))) aNil)))
noncomputable def F_put_way : List PyData → Rs PyData := fn 14 (sSeq (sAsg (eVar 0) (gT 2 (gsC (gN 4) (gsC (gN 5) gsN))))
      (sSeq (sAsg (eVar 1) (gT 2 (gsC (gN 6) (gsC (gN 7) gsN))))
      (sSeq (sSetO 8 aNil)
      (sSeq (sFor (iItems (eCall F_idle (aCons (eCall F_put (aCons (eVar 4) (aCons (eVar 6) aNil))) aNil))) (gN 9)
      (sSeq (sAsg (eCall F_turned (aCons (eVar 2) (aCons (eCall F_unpacked (aCons (eVar 4) (aCons (eVar 6) (aCons (eVar 9) aNil)))) aNil))) (gT 2 (gsC (gN 10) (gsC (gN 11) gsN))))
      (sSeq (sSet 12 (eCB tupleD (aCons (eL (lLc [13] (iItems (eVar 11)) (gN 13) tY (eCall F_turned (aCons (eVar 3) (aCons (eVar 13) aNil))))) aNil)))
      (sMut 8 appM (aCons (eCall F_packed (aCons (eVar 5) (aCons (eVar 7) (aCons (eTup (aCons (eVar 10) (aCons (eVar 12) aNil))) aNil)))) aNil)))))
      (sRet (eCB tupleD (aCons (eVarR 8) aNil)))))))
noncomputable def F_law_way : List PyData → Rs PyData := fn 10 (sSeq (sSetO 3 aNil)
      (sSeq (sFor (iEnumD (eVar 1)) (gT 2 (gsC (gN 4) (gsC (gN 5) gsN)))
      (sSeq (sSet 6 (e2 divD (eVar 0) (e2 addD (eC (.int 3)) (e2 mulD (eC (.int 11)) (eVar 4)))))
      (sSeq (sSet 7 (eL (lLc [8] (iRg (rg1D (eCB lenD (aCons (eVar 2) aNil)))) (gN 8) (tOr' (tB' (e2 gtD (eVar 5) (eC (.int 0)))) (tB' (e2 eqD (e2 ixD (eVar 2) (eVar 8)) (eC (.int 0))))) (eVar 8))))
      (sSeq (sIf (tB' (e2 eqD (eVar 7) (eL aNil)))
      (sRet (eC .none))
      sNil)
      (sSeq (sSet 8 (e2 ixD (eVar 7) (e2 modD (eVar 6) (eCB lenD (aCons (eVar 7) aNil)))))
      (sMut 3 appM (aCons (eTup (aCons (eVar 8) (aCons (eCB tupleD (aCons (eL (lLc [9] (iRg (rg1D (e2 ixD (eVar 2) (eVar 8)))) (gN 9) tY (e2 modD (e2 divD (eVar 6) (e2 addD (eC (.int 5)) (e2 mulD (eC (.int 7)) (eVar 9)))) (eVar 5)))) aNil)) aNil))) aNil)))))))
      (sRet (eCB tupleD (aCons (eVarR 3) aNil)))))
noncomputable def F_law_turned : List PyData → Rs PyData := fn 5 (sSeq (sAsg (e2 ixD (eVar 0) (e2 ixD (eVar 1) (eC (.int 0)))) (gT 2 (gsC (gN 2) (gsC (gN 3) gsN))))
      (sRet (eTup (aCons (eVar 2) (aCons (eCB tupleD (aCons (eL (lLc [4] (iItems (eVar 3)) (gN 4) tY (e2 ixD (e2 ixD (eVar 1) (eC (.int 1))) (eVar 4)))) aNil)) aNil)))))
noncomputable def F_multiplied : List PyData → Rs PyData := fn 4 (sRet (eCall F_bounded (aCons (eCB tupleD (aCons (eL (lLc2 [2, 3] [3] (iItems (eVar 0)) (gN 2) tY (iItems (eVar 1)) (gN 3) tY (e2 addD (eVar 2) (eVar 3)))) aNil)) aNil)))
noncomputable def F_joined : List PyData → Rs PyData := fn 2 (sRet (eCall F_bounded (aCons (e2 addD (eVar 0) (eVar 1)) aNil)))
noncomputable def F_unpacked_twice : List PyData → Rs PyData := fn 7 (sSeq (sAsg (eCall F_unpacked (aCons (eVar 0) (aCons (eCall F_put (aCons (eVar 1) (aCons (eVar 2) aNil))) (aCons (eVar 3) aNil)))) (gT 2 (gsC (gN 4) (gsC (gN 5) gsN))))
      (sRet (eTup (aCons (eVar 4) (aCons (eCB tupleD (aCons (eL (lLc [6] (iItems (eVar 5)) (gN 6) tY (eCall F_unpacked (aCons (eVar 1) (aCons (eVar 2) (aCons (eVar 6) aNil)))))) aNil)) aNil)))))
noncomputable def F_regrouped : List PyData → Rs PyData := fn 7 (sSeq (sSet 3 (eCall F_put (aCons (eVar 0) (aCons (eVar 1) aNil))))
      (sSeq (sSetO 4 aNil)
      (sSeq (sFor (iItems (eCall F_idle (aCons (eCall F_put (aCons (eVar 0) (aCons (eCall F_put (aCons (eVar 1) (aCons (eVar 2) aNil))) aNil))) aNil))) (gN 5)
      (sSeq (sSet 6 (eCall F_unpacked_twice (aCons (eVar 0) (aCons (eVar 1) (aCons (eVar 2) (aCons (eVar 5) aNil))))))
      (sMut 4 appM (aCons (eCall F_packed (aCons (eVar 3) (aCons (eVar 2) (aCons (eCall F_packed (aCons (eVar 0) (aCons (eVar 1) (aCons (eVar 6) aNil)))) aNil)))) aNil))))
      (sRet (eCB tupleD (aCons (eVarR 4) aNil))))))
abbrev cr (ws : List Int) : PyData := .tuple (ws.map PyData.int)
theorem pow_lt {n : Int} {i m : Nat} (n0 : 0 ≤ n) (n1 : n < 2 ^ m) : (n ^ i).natAbs < 2 ^ (m * i + 1) := by
  obtain ⟨k, rfl⟩ := Int.eq_ofNat_of_zero_le n0
  have e : (k : Int) ^ i = ((k ^ i : Nat) : Int) := (Int.natCast_pow k i).symm
  have hk : k < 2 ^ m := by
    have : (2 : Int) ^ m = ((2 ^ m : Nat) : Int) := (Int.natCast_pow 2 m).symm
    omega
  rw [e, Int.natAbs_natCast, Nat.pow_succ, Nat.pow_mul]
  have := Nat.pow_le_pow_left (Nat.le_of_lt hk) i
  have := Nat.two_pow_pos (m * i)
  rw [Nat.pow_mul] at this
  omega
theorem lim_eq : lim = 10000000 := rfl
theorem how_many_of_tray {w n : Int} (w0 : 0 ≤ w) (w1 : w ≤ 60) (n0 : 0 ≤ n) (n1 : n < 2 ^ 40) : F_how_many_of_tray [.int w, .int n] = .ok (.int (n ^ w.toNat)) := by
  have hm : (if n > 0 then n else 0) = n := by split <;> omega
  have hn : wide n = true := wide_small (by omega) (by omega)
  simp [F_how_many_of_tray, rgOk0 w0 (by omega), rgD0, hm]
  obtain ⟨ρ', e, x, rfl⟩ := for_all (g := gN 4) (b := sSet 3 (e2 mulD (eVar 3) (eVar 2))) (ds := (iota w).map PyData.int) (ρ := [some (false, .int w), some (false, .int n), some (false, .int n), some (false, .int 1), none])
    (fun i ρ => ∃ x, ρ = [some (false, .int w), some (false, .int n), some (false, .int n), some (false, .int (n ^ i)), x]) ⟨none, by simp⟩ (fun i d ρ hd ⟨x, hρ⟩ => by
      subst hρ
      have hi : i < (iota w).length := by have := (List.getElem?_eq_some_iff.mp hd).1; simpa using this
      rw [iota_len] at hi
      have hw : wide (n ^ i) = true := wide_of (pow_lt (m := 40) n0 n1) (by omega) (by omega)
      simp [q_mul hw hn, Int.pow_succ])
  rw [e]
  simp [iota_len]
theorem how_many {ws : List Int} {n : Int} (hw : ∀ x ∈ ws, 0 ≤ x ∧ x ≤ 60) (hl : ws.length ≤ 10000) (n0 : 0 ≤ n) (n1 : n < 2 ^ 40) : F_how_many [cr ws, .int n] = .ok (.int (cnt n ws)) := by
  have h := lc_mapE (enc := PyData.int) (out := PyData.int) (h := fun x => n ^ x.toNat) (xs := ws) (bd := bd1 (gN 2) tY (eCall F_how_many_of_tray (aCons (eVar 2) (aCons (eVar 1) aNil))) [some (false, cr ws), some (false, .int n), none]) fun x hx => by
    simp [how_many_of_tray (hw x hx).1 (hw x hx).2 n0 n1]
  simp [F_how_many]
  simp at h
  rw [h, cap_le (by simp [lim_eq]; omega)]
  have := q_sum (ws.map fun x => n ^ x.toNat)
  simp at this ⊢
  rw [this]
  rfl
/-! ### slices of numbers -/
theorem cut_map {α : Type} (f : α → PyData) (xs : List α) (lo hi : Option Int) : cutD (xs.map f) lo hi = ((xs.drop (HT.sIx xs.length 0 lo)).take (HT.sIx xs.length xs.length hi - HT.sIx xs.length 0 lo)).map f := by
  unfold cutD
  rw [List.length_map, List.map_take, List.map_drop]
theorem sIx_in {n : Nat} {d : Nat} {i : Int} (h0 : 0 ≤ i) (h1 : i ≤ (n : Int)) : HT.sIx n d (some i) = i.toNat := by
  show (if i < 0 then (i + (n : Int)).toNat else min i.toNat n) = i.toNat
  rw [if_neg (by omega)]
  omega
theorem cut_take {xs : List PyData} {i : Int} (h0 : 0 ≤ i) (h1 : i ≤ (xs.length : Int)) : cutD xs none (some i) = xs.take i.toNat := by
  unfold cutD
  rw [sIx_in h0 h1, HT.sIx_none, List.drop_zero, Nat.sub_zero]
theorem cut_drop {xs : List PyData} {i : Int} (h0 : 0 ≤ i) (h1 : i ≤ (xs.length : Int)) : cutD xs (some i) none = xs.drop i.toNat := by
  unfold cutD
  rw [sIx_in h0 h1, HT.sIx_none]
  exact List.take_of_length_le (by rw [List.length_drop]; omega)
/-! ### place_of -/
theorem place_of {us row : List Int} {n s : Int} (hu : ∀ x ∈ us, 0 ≤ x ∧ x ≤ 60) (hl : us.length ≤ 10000) (n0 : 0 ≤ n) (n1 : n < 2 ^ 40) (s0 : 0 ≤ s) (s1 : s ≤ (us.length : Int)) (hr : row.length ≤ 60) (hb : ∀ x ∈ row, 0 ≤ x ∧ x < 2 ^ 40) : F_place_of [cr us, .int n, .tuple [.int s, cr row]] = .ok (.int (fnum n us (s, row))) := by
  have hn : wide n = true := wide_small (by omega) (by omega)
  have dg : ∀ r : List Int, (∀ x ∈ r, 0 ≤ x ∧ x < 2 ^ 40) → 0 ≤ dig n r ∧ dig n r < 2 ^ (41 * r.length) := fun r => by
    induction r with
    | nil => intro _; exact ⟨Int.le_refl 0, by show (0 : Int) < 2 ^ 0; decide⟩
    | cons t r ih =>
      intro h
      obtain ⟨i0, i1⟩ := ih fun x hx => h x (List.mem_cons_of_mem _ hx)
      obtain ⟨t0, t1⟩ := h t List.mem_cons_self
      have hp : 0 ≤ n ^ r.length := pow_nn n0
      have hq : n ^ r.length ≤ 2 ^ (40 * r.length) := by
        obtain ⟨k, rfl⟩ := Int.eq_ofNat_of_zero_le n0
        have : k ^ r.length ≤ (2 ^ 40) ^ r.length := Nat.pow_le_pow_left (by omega) _
        rw [← Nat.pow_mul] at this
        have a1 : ((k ^ r.length : Nat) : Int) = (k : Int) ^ r.length := Int.natCast_pow k _
        have a2 : ((2 ^ (40 * r.length) : Nat) : Int) = 2 ^ (40 * r.length) := Int.natCast_pow 2 _
        omega
      refine ⟨Int.add_nonneg (Int.mul_nonneg t0 hp) i0, ?_⟩
      show t * n ^ r.length + dig n r < _
      have h1 : t * n ^ r.length ≤ (2 ^ 40 - 1) * 2 ^ (40 * r.length) := Int.mul_le_mul (by omega) hq hp (by decide)
      have e : (2 : Int) ^ (41 * (t :: r).length) = 2 ^ 41 * 2 ^ (41 * r.length) := by
        rw [List.length_cons, show 41 * (r.length + 1) = 41 + 41 * r.length by omega, Int.pow_add]
      have h2 : (2 : Int) ^ (40 * r.length) ≤ 2 ^ (41 * r.length) := by
        have : (2 : Nat) ^ (40 * r.length) ≤ 2 ^ (41 * r.length) := Nat.pow_le_pow_right (by decide) (by omega)
        have a1 : ((2 ^ (40 * r.length) : Nat) : Int) = 2 ^ (40 * r.length) := Int.natCast_pow 2 _
        have a2 : ((2 ^ (41 * r.length) : Nat) : Int) = 2 ^ (41 * r.length) := Int.natCast_pow 2 _
        omega
      rw [e]
      omega
  obtain ⟨ρ', e, x, rfl⟩ := for_all (g := gN 6) (b := sSet 5 (e2 addD (e2 mulD (eVar 5) (eVar 1)) (eVar 6))) (ds := row.map PyData.int) (ρ := [some (false, cr us), some (false, .int n), some (false, .tuple [.int s, cr row]), some (false, .int s), some (false, cr row), some (false, .int 0), none])
    (fun i ρ => ∃ x, ρ = [some (false, cr us), some (false, .int n), some (false, .tuple [.int s, cr row]), some (false, .int s), some (false, cr row), some (false, .int (dig n (row.take i))), x]) ⟨none, by simp [dig]⟩ (fun i d ρ hd ⟨x, hρ⟩ => by
      subst hρ
      rw [List.getElem?_map] at hd
      cases q : row[i]? with
      | none => rw [q] at hd; cases hd
      | some t =>
        rw [q] at hd
        cases hd
        have hb' := dg (row.take i) fun x hx => hb x (List.mem_of_mem_take hx)
        have hw : wide (dig n (row.take i)) = true := wide_of (n := 41 * 60 + 1) (by
          have h3 : (2 : Int) ^ (41 * (row.take i).length) ≤ 2 ^ (41 * 60) := by
            have : (2 : Nat) ^ (41 * (row.take i).length) ≤ 2 ^ (41 * 60) := Nat.pow_le_pow_right (by decide) (by rw [List.length_take]; omega)
            have a1 : ((2 ^ (41 * (row.take i).length) : Nat) : Int) = 2 ^ (41 * (row.take i).length) := Int.natCast_pow 2 _
            have a2 : ((2 ^ (41 * 60) : Nat) : Int) = 2 ^ (41 * 60) := Int.natCast_pow 2 _
            omega
          have a3 : ((2 ^ (41 * 60 + 1) : Nat) : Int) = 2 * 2 ^ (41 * 60) := by
            rw [Nat.pow_succ, Int.natCast_mul, Int.natCast_pow, Int.mul_comm]
            rfl
          have a4 : (0 : Int) < 2 ^ (41 * 60) := Int.pow_pos (by decide)
          omega) (by decide)
        have hds : dig n (row.take (i + 1)) = dig n (row.take i) * n + t := by
          rw [List.take_add_one, q]
          exact dig_snoc n t _
        simp [q_mul hw hn, hds])
  simp [F_place_of]
  simp at e
  rw [e]
  have hc : cutD (us.map PyData.int) none (some s) = (us.take s.toNat).map PyData.int := by
    rw [cut_take s0 (by rw [List.length_map]; exact s1), List.map_take]
  have hm := how_many (ws := us.take s.toNat) (n := n) (fun x hx => hu x (List.mem_of_mem_take hx)) (by rw [List.length_take]; omega) n0 n1
  simp [-List.map_take, hc, hm, fnum]
/-! ### things_at, filling_at -/
theorem dig_take_snoc {n : Int} {r : List Int} {j : Nat} {t : Int} (h : r[j]? = some t) : dig n (r.take (j + 1)) = dig n (r.take j) * n + t := by
  rw [List.take_add_one, h]
  exact dig_snoc n t _
theorem things_at {w n p : Int} {r : List Int} (w1 : w ≤ 1000) (hr : (r.length : Int) = w) (hb : Below n r) (hp : dig n r = p) (n1 : n < 2 ^ 40) : F_things_at [.int w, .int n, .int p] = .ok (cr r) := by
  subst hr hp
  obtain ⟨ρ', e, x, y, rfl⟩ := for_all (g := gN 4) (b := sSeq (sAsg (eCB divmodD (aCons (eVar 2) (aCons (eVar 1) aNil))) (gT 2 (gsC (gN 2) (gsC (gN 5) gsN)))) (sMut 3 appM (aCons (eVar 5) aNil))) (ds := (iota (r.length : Int)).map PyData.int) (ρ := [some (false, .int r.length), some (false, .int n), some (false, .int (dig n r)), some (true, .list []), none, none])
    (fun i ρ => ∃ x y, ρ = [some (false, .int r.length), some (false, .int n), some (false, .int (dig n (r.take (r.length - i)))), some (true, .list ((r.drop (r.length - i)).reverse.map PyData.int)), x, y]) ⟨none, none, by simp⟩ (fun i d ρ hd ⟨x, y, hρ⟩ => by
      subst hρ
      have hi : i < (iota (r.length : Int)).length := by have := (List.getElem?_eq_some_iff.mp hd).1; simpa using this
      rw [iota_len, Int.toNat_natCast] at hi
      obtain ⟨t, ht⟩ : ∃ t, r[r.length - (i + 1)]? = some t := ⟨_, List.getElem?_eq_getElem (by omega)⟩
      have hbt := hb t (List.mem_of_getElem? ht)
      have e1 : dig n (r.take (r.length - i)) = dig n (r.take (r.length - (i + 1))) * n + t := by
        rw [show r.length - i = r.length - (i + 1) + 1 by omega]
        exact dig_take_snoc ht
      have hw : wide n = true := wide_small (by omega) (by omega)
      have d1 : dig n (r.take (r.length - i)) / n = dig n (r.take (r.length - (i + 1))) := by
        rw [e1, Int.add_comm, Int.add_mul_ediv_right _ _ (by omega), Int.ediv_eq_zero_of_lt hbt.1 hbt.2, Int.zero_add]
      have d2 : dig n (r.take (r.length - i)) % n = t := by
        rw [e1, Int.add_comm, Int.add_mul_emod_self_right, Int.emod_eq_of_lt hbt.1 hbt.2]
      have e2 : r.drop (r.length - (i + 1)) = t :: r.drop (r.length - i) := by
        rw [List.drop_eq_getElem_cons (by omega)]
        rw [List.getElem?_eq_getElem (by omega)] at ht
        rw [Option.some.inj ht, show r.length - (i + 1) + 1 = r.length - i by omega]
      simp [-List.map_take, -List.map_drop, -List.map_reverse, q_divmod (show 0 < n by omega) hw, d1, d2, q_app (show ((r.drop (r.length - i)).reverse.map PyData.int).length < lim by simp [lim_eq]; omega), e2])
  simp [F_things_at, rgOk0 (show (0 : Int) ≤ r.length by omega) (by omega), rgD0]
  simp at e
  rw [e]
  simp [iota_len]
theorem filling_at {us : List Int} {n k : Int} {q : Int × List Int} (hu : ∀ x ∈ us, 0 ≤ x ∧ x ≤ 60) (hl : us.length ≤ 10000) (n0 : 0 ≤ n) (n1 : n < 2 ^ 40) (hq : FillOk n us q) (hk : fnum n us q = k) : F_filling_at [cr us, .int n, .int k] = .ok (dPair q) := by
  obtain ⟨q0, q1, q2, q3⟩ := hq
  have ix : ∀ (i : Nat), i < us.length → ∃ x, us[i]? = some x ∧ 0 ≤ x ∧ x ≤ 60 ∧ ixD (cr us) (.int (i : Int)) = .ok (.int x) ∧ F_how_many_of_tray [.int x, .int n] = .ok (.int (n ^ x.toNat)) := fun i hi => by
    have g : us[i]? = some us[i] := List.getElem?_eq_getElem hi
    have hx := hu us[i] (List.getElem_mem hi)
    refine ⟨us[i], g, hx.1, hx.2, q_ixT (at_get (by rw [List.getElem?_map, g]; rfl)), how_many_of_tray hx.1 hx.2 n0 n1⟩
  obtain ⟨ρ', e, rfl⟩ := while_all (c := tB' (e2 geD (eVar 2) (eCall F_how_many_of_tray (aCons (e2 ixD (eVar 0) (eVar 3)) (aCons (eVar 1) aNil))))) (b := sSeq (sSet 2 (e2 subD (eVar 2) (eCall F_how_many_of_tray (aCons (e2 ixD (eVar 0) (eVar 3)) (aCons (eVar 1) aNil))))) (sSet 3 (e2 addD (eVar 3) (eC (.int 1)))))
    (fun i ρ => ρ = [some (false, cr us), some (false, .int n), some (false, .int (k - cnt n (us.take i))), some (false, .int (i : Int))]) (m := q.1.toNat) (fun i ρ hi hρ => by
      subst hρ
      obtain ⟨x, g, x0, x1, h1, h2⟩ := ix i (by omega)
      have hc := cnt_take (n := n) g
      have hs := cnt_take_mono n0 us (show i + 1 ≤ q.1.toNat by omega)
      have hd := (dig_bound q3).1
      have hk' : n ^ x.toNat ≤ k - cnt n (us.take i) := by
        rw [← hk]
        show n ^ x.toNat ≤ cnt n (us.take q.1.toNat) + dig n q.2 - _
        omega
      refine ⟨by simp [h1, h2]; exact hk', ?_⟩
      simp [h1, h2, hc]
      omega) (fun ρ hρ => by
      subst hρ
      obtain ⟨x, g, x0, x1, h1, h2⟩ := ix q.1.toNat (by omega)
      rw [q2] at g
      cases g
      have hd := (dig_bound q3).2
      simp [-Int.ofNat_toNat, h1, h2]
      rw [← hk]
      show cnt n (us.take q.1.toNat) + dig n q.2 - _ < _
      omega) (n := 100000) (i := 0) (ρ := [some (false, cr us), some (false, .int n), some (false, .int k), some (false, .int 0)]) (Nat.zero_le _) (by omega) (by simp [cnt])
  obtain ⟨x, g, x0, x1, h1, h2⟩ := ix q.1.toNat (by omega)
  rw [q2] at g
  cases g
  have ht := things_at (w := (q.2.length : Int)) (n := n) (p := k - cnt n (us.take q.1.toNat)) (r := q.2) (by omega) rfl q3 (by rw [← hk]; show _ = cnt n _ + dig n q.2 - _; omega) n1
  simp [F_filling_at]
  rw [e]
  have e0 : ((q.1.toNat : Nat) : Int) = q.1 := by omega
  rw [e0] at h1
  simp only [e0]
  simp [h1, ht, dPair]
/-! ### rising_things, all_fillings -/
theorem pow_le_max {n i w : Nat} (h : i ≤ w) : n ^ i ≤ n ^ w + 1 := by
  cases n with
  | zero =>
    cases i with
    | zero => rw [Nat.pow_zero]; exact Nat.le_add_left 1 _
    | succ i => rw [Nat.zero_pow (by omega)]; exact Nat.zero_le _
  | succ n => exact Nat.le_succ_of_le (Nat.pow_le_pow_right (by omega) h)
theorem rising_things {w : Int} {n : Nat} (w0 : 0 ≤ w) (w1 : w ≤ 60) (n1 : n ≤ 100000) (hc : n ^ w.toNat ≤ 100000) : F_rising_things [.int w, .int (n : Int)] = .ok (.list ((rows n w.toNat).map cr)) := by
  obtain ⟨ρ', e, x, rfl⟩ := for_all (g := gN 3) (b := sSet 2 (eL (lLc2 [4, 5] [5] (iItems (eVar 2)) (gN 4) tY (iRg (rg1D (eVar 1))) (gN 5) tY (e2 addD (eVar 4) (eTup (aCons (eVar 5) aNil)))))) (ds := (iota w).map PyData.int) (ρ := [some (false, .int w), some (false, .int (n : Int)), some (false, .list [.tuple []]), none, none, none])
    (fun i ρ => ∃ x, ρ = [some (false, .int w), some (false, .int (n : Int)), some (false, .list ((rows n i).map cr)), x, none, none]) ⟨none, by simp [rows]⟩ (fun i d ρ hd ⟨x, hρ⟩ => by
      subst hρ
      have hi : i < (iota w).length := by have := (List.getElem?_eq_some_iff.mp hd).1; simpa using this
      rw [iota_len] at hi
      have hr : rgOk 0 (n : Int) = true := rgOk0 (by omega) (by omega)
      have inner : ∀ r : List Int, r.length = i → ∀ ρ0 : Ev, lcAll (bd1 (gN 5) tY (e2 addD (eVar 4) (eTup (aCons (eVar 5) aNil))) [some (false, .int w), some (false, .int (n : Int)), some (false, .list ((rows n i).map cr)), some (false, d), some (false, cr r), none]) ((iota (n : Int)).map PyData.int) = .ok ((List.range n).map fun (t : Nat) => cr (r ++ [(t : Int)])) := fun r hr' ρ0 => by
        have := lc_mapE (enc := PyData.int) (out := fun x : List Int => cr x) (h := fun x => r ++ [x]) (xs := iota (n : Int)) (bd := bd1 (gN 5) tY (e2 addD (eVar 4) (eTup (aCons (eVar 5) aNil))) [some (false, .int w), some (false, .int (n : Int)), some (false, .list ((rows n i).map cr)), some (false, d), some (false, cr r), none]) fun x hx => by
          simp [q_addT (show (r.map PyData.int).length + [PyData.int x].length ≤ lim by simp [lim_eq]; omega)]
        rw [this]
        unfold iota
        simp [List.map_map, Function.comp_def]
      have outer := lc_flatE (enc := fun r : List Int => cr r) (h := fun r => (List.range n).map fun (t : Nat) => cr (r ++ [(t : Int)])) (xs := rows n i) (bd := bd2 [5] (gN 4) tY (iRg (rg1D (eVar 1))) (gN 5) tY (e2 addD (eVar 4) (eTup (aCons (eVar 5) aNil))) [some (false, .int w), some (false, .int (n : Int)), some (false, .list ((rows n i).map cr)), some (false, d), none, none]) fun r hr' => by
        have := inner r (rows_mem hr').1 []
        simp [hr, rgD0] at this ⊢
        exact this
      have hlen : ((rows n i).flatMap fun r => (List.range n).map fun (t : Nat) => cr (r ++ [(t : Int)])).length ≤ lim := by
        have e1 : ((rows n i).flatMap fun r => (List.range n).map fun (t : Nat) => cr (r ++ [(t : Int)])) = (rows n (i + 1)).map cr := by
          show _ = List.map cr ((rows n i).flatMap fun r => (List.range n).map fun (t : Nat) => r ++ [(t : Int)])
          rw [List.map_flatMap]
          simp [List.map_map, Function.comp_def]
        rw [e1, List.length_map, rows_len]
        have := pow_le_max (n := n) (show i + 1 ≤ w.toNat by omega)
        rw [lim_eq]
        omega
      simp
      try simp at outer
      rw [outer]
      rw [cap_le hlen]
      simp [rows, List.map_flatMap, List.map_map, Function.comp_def])
  simp [F_rising_things, rgOk0 w0 (show w ≤ 16777216 by omega), rgD0]
  simp at e
  rw [e]
  simp [iota_len]
theorem enum_get {α : Type} {f : α → PyData} {xs : List α} {i : Nat} {d : PyData} (h : (enumG 0 (xs.map f))[i]? = some d) : ∃ x, xs[i]? = some x ∧ d = .tuple [.int (i : Int), f x] := by
  obtain ⟨e, h1, h2⟩ := enumG_get h
  rw [List.getElem?_map] at h1
  cases q : xs[i]? with
  | none => rw [q] at h1; cases h1
  | some x =>
    rw [q] at h1
    cases h1
    exact ⟨x, rfl, by rw [h2, Nat.zero_add]⟩
theorem map_get' {α : Type} {f : α → PyData} {xs : List α} {i : Nat} {d : PyData} (h : (xs.map f)[i]? = some d) : ∃ x, xs[i]? = some x ∧ d = f x := by
  rw [List.getElem?_map] at h
  cases q : xs[i]? with
  | none => rw [q] at h; cases h
  | some x =>
    rw [q] at h
    cases h
    exact ⟨x, rfl, rfl⟩
theorem take_snoc {α : Type} {xs : List α} {i : Nat} {x : α} (h : xs[i]? = some x) : xs.take (i + 1) = xs.take i ++ [x] := by
  rw [List.take_add_one, h]
  rfl
theorem all_fillings {ws : List Int} {n : Nat} (hw : ∀ x ∈ ws, 0 ≤ x ∧ x ≤ 60) (hl : ws.length ≤ 10000) (n1 : n ≤ 100000) (hc : cnt (n : Int) ws ≤ 2000) : F_all_fillings [cr ws, .int (n : Int)] = .ok (.list ((fills n ws ws.length).map dPair)) := by
  have hm := how_many (ws := ws) (n := (n : Int)) hw hl (by omega) (by omega)
  have fl : ∀ i, i ≤ ws.length → (fills n ws i).length ≤ 2000 := fun i hi => by
    have h1 := fills_len (n := n) (ws := ws) hi
    have h2 := cnt_take_le (n := (n : Int)) (by omega) ws i
    omega
  obtain ⟨ρ', e, x, y, z, rfl⟩ := for_all (g := gT 2 (gsC (gN 3) (gsC (gN 4) gsN))) (b := sFor (iItems (eCall F_rising_things (aCons (eVar 4) (aCons (eVar 1) aNil)))) (gN 5) (sMut 2 appM (aCons (eTup (aCons (eVar 3) (aCons (eVar 5) aNil))) aNil))) (ds := enumG 0 (ws.map PyData.int)) (ρ := [some (false, cr ws), some (false, .int (n : Int)), some (true, .list []), none, none, none])
    (fun i ρ => ∃ x y z, ρ = [some (false, cr ws), some (false, .int (n : Int)), some (true, .list ((fills n ws i).map dPair)), x, y, z]) ⟨none, none, none, by simp [fills]⟩ (fun i d ρ hd ⟨x, y, z, hρ⟩ => by
      subst hρ
      obtain ⟨k, hk, rfl⟩ := enum_get hd
      have hi : i < ws.length := (List.getElem?_eq_some_iff.mp hk).1
      obtain ⟨k0, k1⟩ := hw k (List.mem_of_getElem? hk)
      have hp : n ^ k.toNat ≤ 2000 := by
        have h1 := cnt_term (n := (n : Int)) (by omega) hk
        have h2 : ((n ^ k.toNat : Nat) : Int) = (n : Int) ^ k.toNat := Int.natCast_pow n _
        omega
      have rt := rising_things (w := k) (n := n) k0 k1 n1 (by omega)
      have f1 := fills_succ n ws i
      have o1 : one n ws i = (rows n k.toNat).map fun r => ((i : Int), r) := by
        unfold one
        rw [List.getD_eq_getElem?_getD, hk]
        rfl
      have l1 := fl (i + 1) (by omega)
      rw [f1, o1, List.length_append, List.length_map] at l1
      obtain ⟨ρ', e, z', rfl⟩ := for_all (g := gN 5) (b := sMut 2 appM (aCons (eTup (aCons (eVar 3) (aCons (eVar 5) aNil))) aNil)) (ds := (rows n k.toNat).map cr) (ρ := [some (false, cr ws), some (false, .int (n : Int)), some (true, .list ((fills n ws i).map dPair)), some (false, .int (i : Int)), some (false, .int k), z])
        (fun j ρ => ∃ z, ρ = [some (false, cr ws), some (false, .int (n : Int)), some (true, .list ((fills n ws i ++ ((rows n k.toNat).take j).map fun r => ((i : Int), r)).map dPair)), some (false, .int (i : Int)), some (false, .int k), z]) ⟨z, by simp⟩ (fun j d ρ hd ⟨z, hρ⟩ => by
          subst hρ
          obtain ⟨r, hr, rfl⟩ := map_get' hd
          rw [take_snoc hr]
          simp [-List.map_take, -List.map_append, q_app (show (List.map dPair (fills n ws i ++ ((rows n k.toNat).take j).map fun r => ((i : Int), r))).length < lim by simp [lim_eq]; omega)]
          simp [dPair])
      simp [rt, e]
      rw [f1, o1]
      simp [List.map_map, Function.comp_def])
  simp [F_all_fillings, hm, show ¬ 2000 < cnt (n : Int) ws by omega]
  simp [enumG_len] at e
  rw [e]
  simp
theorem all_fillings_no {ws : List Int} {n : Nat} (hw : ∀ x ∈ ws, 0 ≤ x ∧ x ≤ 60) (hl : ws.length ≤ 10000) (n1 : n ≤ 100000) (hc : 2000 < cnt (n : Int) ws) : F_all_fillings [cr ws, .int (n : Int)] = .err "TooMany" := by
  have hm := how_many (ws := ws) (n := (n : Int)) hw hl (by omega) (by omega)
  simp [F_all_fillings, hm, hc]
/-! ### what a crate is -/
theorem is_whole_int (i : Int) : F_is_whole [.int i] = .ok (.bool true) := by
  simp [F_is_whole, isi_int (d := .int i) (fun _ h => by cases h), isi_bool (d := .int i) (fun _ h => by cases h), intD, boolD]
theorem is_below_int (i b : Int) : F_is_below [.int i, .int b] = .ok (.bool (decide (0 ≤ i) && decide (i < b))) := by
  simp [F_is_below, is_whole_int]
  by_cases h : 0 ≤ i
  · simp [h]
  · simp [h]
theorem is_crate_cr {ws : List Int} (hl : ws.length ≤ 100000) : F_is_crate [cr ws] = .ok (.bool (crateD (cr ws))) := by
  have h := lc_mapE (enc := PyData.int) (out := PyData.bool) (h := fun x => decide (0 ≤ x) && decide (x < 13)) (xs := ws) (bd := bd1 (gN 1) tY (eCall F_is_below (aCons (eVar 1) (aCons (e2 addD (eC (.int 12)) (eC (.int 1))) aNil))) [some (false, cr ws), none]) fun x hx => by
    simp [is_below_int]
  have hd : crateD (cr ws) = (decide (ws.length ≤ 60) && (ws.map fun x => decide (0 ≤ x) && decide (x < 13)).all id) := by
    show (decide ((ws.map PyData.int).length ≤ 60) && (ws.map PyData.int).all (wellD 13)) = _
    rw [List.length_map, List.all_map, List.all_map]
    rfl
  rw [hd]
  simp [F_is_crate, isi_tuple (d := cr ws) (fun _ h => by cases h), tupD]
  by_cases hx : (60 : Int) < (ws.length : Int)
  · simp [hx, show ¬ ws.length ≤ 60 by omega]
  · rw [if_neg hx]
    try simp [-List.map_map] at h
    simp [-List.map_map, h]
    rw [cap_le (by simp [lim_eq]; omega)]
    have := q_all (ws.map fun x => decide (0 ≤ x) && decide (x < 13))
    try simp [-List.map_map, -List.all_map] at this
    simp [-List.map_map, -List.all_map, this, show ws.length ≤ 60 by omega]
    rw [List.all_map]
    rfl
theorem bounded_cr {ws : List Int} (hl : ws.length ≤ 100000) : F_bounded [cr ws] = if crateD (cr ws) = true then .ok (cr ws) else .err "TooBig" := by
  simp [F_bounded, is_crate_cr hl]
  by_cases h : crateD (cr ws) = true
  · simp [h]
  · simp [h]
/-! ### crates put in one another -/
/-- the wells of a row -/
def rowW (ws : List Int) (r : List Int) : Int := (r.map (pick ws)).sum
def putC (us ws : List Int) : List Int := (fills ws.length us us.length).map fun p => rowW ws p.2
theorem ix_cr {ws : List Int} {i : Int} (h0 : 0 ≤ i) (h1 : i < (ws.length : Int)) : ixD (cr ws) (.int i) = .ok (.int (pick ws i)) := q_ixT (at_int h0 (by rw [List.getElem?_map, pick_in h0 h1]; rfl))
theorem put_cr {us ws : List Int} (hu : ∀ x ∈ us, 0 ≤ x ∧ x ≤ 60) (hl : us.length ≤ 10000) (hl2 : ws.length ≤ 10000) : F_put [cr us, cr ws] = if cnt (ws.length : Int) us ≤ 60 then (if crateD (cr (putC us ws)) = true then .ok (cr (putC us ws)) else .err "TooBig") else .err "TooBig" := by
  have hm := how_many (ws := us) (n := (ws.length : Int)) hu hl (by omega) (by omega)
  by_cases hc : cnt (ws.length : Int) us ≤ 60
  · have af := all_fillings (ws := us) (n := ws.length) hu hl (by omega) (by omega)
    have lf := fills_len (n := ws.length) (ws := us) (Nat.le_refl us.length)
    rw [List.take_length] at lf
    have h := lc_mapE (enc := dPair) (out := PyData.int) (h := fun p : Int × List Int => rowW ws p.2) (xs := fills ws.length us us.length) (bd := bd1 (gT 2 (gsC (gN 3) (gsC (gN 4) gsN))) tY (eCB sumD (aCons (eL (lLc [5] (iItems (eVar 4)) (gN 5) tY (e2 ixD (eVar 1) (eVar 5)))) aNil)) [some (false, cr us), some (false, cr ws), some (false, .list ((fills ws.length us us.length).map dPair)), none, none, none]) fun p hp => by
      obtain ⟨j, hj, hp'⟩ := List.mem_flatMap.mp hp
      obtain ⟨r, hr, rfl⟩ := List.mem_map.mp hp'
      obtain ⟨r1, r2⟩ := rows_mem hr
      have hjl := List.mem_range.mp hj
      have hrl : r.length ≤ 60 := by
        rw [r1, List.getD_eq_getElem?_getD, List.getElem?_eq_getElem hjl]
        have := hu _ (List.getElem_mem hjl)
        show (us[j]).toNat ≤ 60
        omega
      have h2 := lc_mapE (enc := PyData.int) (out := PyData.int) (h := pick ws) (xs := r) (bd := bd1 (gN 5) tY (e2 ixD (eVar 1) (eVar 5)) [some (false, cr us), some (false, cr ws), some (false, .list ((fills ws.length us us.length).map dPair)), some (false, .int (j : Int)), some (false, cr r), none]) fun x hx => by
        simp [ix_cr (r2 x hx).1 (r2 x hx).2]
      try simp [-List.map_map] at h2
      simp [-List.map_map, dPair, h2]
      rw [cap_le (by simp [lim_eq]; omega)]
      have := q_sum (r.map (pick ws))
      try simp [-List.map_map] at this
      simp [-List.map_map, this, rowW]
    have hb := bounded_cr (ws := putC us ws) (by unfold putC; rw [List.length_map]; omega)
    try simp [-List.map_map] at h
    simp [-List.map_map, F_put, hm, show ¬ 60 < cnt (ws.length : Int) us by omega, af, h]
    rw [cap_le (by simp [lim_eq]; omega)]
    have e1 : PyData.tuple (List.map PyData.int (List.map (fun p : Int × List Int => rowW ws p.2) (fills ws.length us us.length))) = cr (putC us ws) := rfl
    simp [-List.map_map, e1, hb, hc]
    by_cases hd : crateD (cr (putC us ws)) = true
    · simp [hd]
    · simp [hd]
  · simp [F_put, hm, show 60 < cnt (ws.length : Int) us by omega, hc]
/-! ### fillings of anything -/
abbrev fil (p : Int × List PyData) : PyData := .tuple [.int p.1, .tuple p.2]
theorem flat_lenL {α β : Type} (f : α → List β) (l : List α) : (l.flatMap f).length = (l.map fun x => (f x).length).sum := by
  rw [List.length_flatMap]
/-- packed -/
theorem packed {us ws : List Int} {s : Int} {fs : List (Int × List PyData)} (hu : ∀ x ∈ us, 0 ≤ x ∧ x ≤ 60) (hl : us.length ≤ 10000) (hl2 : ws.length ≤ 10000) (s0 : 0 ≤ s) (s1 : s ≤ (us.length : Int)) (hf : ∀ p ∈ fs, 0 ≤ p.1 ∧ p.1 < 2 ^ 40) (hn : fs.length ≤ 60) (ht : (fs.flatMap fun p => p.2).length ≤ 100000) :
    F_packed [cr us, cr ws, .tuple [.int s, .tuple (fs.map fil)]] = .ok (fil (fnum (ws.length : Int) us (s, fs.map Prod.fst), fs.flatMap fun p => p.2)) := by
  have h1 := fun e9 e10 : Option (Bool × PyData) => lc_mapE (enc := fil) (out := PyData.int) (h := fun p : Int × List PyData => p.1) (xs := fs) (bd := bd1 (gT 2 (gsC (gN 7) (gsC (gN 8) gsN))) tY (eVar 7) [some (false, cr us), some (false, cr ws), some (false, .tuple [.int s, .tuple (fs.map fil)]), some (false, .int s), some (false, .tuple (fs.map fil)), e9, e10, none, none, none]) fun p hp => by simp
  have hp := place_of (us := us) (row := fs.map Prod.fst) (n := (ws.length : Int)) (s := s) hu hl (by omega) (by omega) s0 s1 (by rw [List.length_map]; exact hn) (fun x hx => by
    obtain ⟨p, hp, rfl⟩ := List.mem_map.mp hx
    exact hf p hp)
  have h2 := fun e9 e10 : Option (Bool × PyData) => lc_flatE (enc := fil) (h := fun p : Int × List PyData => p.2) (xs := fs) (bd := bd2 [9] (gT 2 (gsC (gN 7) (gsC (gN 8) gsN))) tY (iItems (eVar 8)) (gN 9) tY (eVar 9) [some (false, cr us), some (false, cr ws), some (false, .tuple [.int s, .tuple (fs.map fil)]), some (false, .int s), some (false, .tuple (fs.map fil)), e9, e10, none, none, none]) fun p hp => by
    have h3 := lc_map (h := fun x : PyData => x) (ds := p.2) (bd := bd1 (gN 9) tY (eVar 9) [some (false, cr us), some (false, cr ws), some (false, .tuple [.int s, .tuple (fs.map fil)]), some (false, .int s), some (false, .tuple (fs.map fil)), e9, e10, some (false, .int p.1), some (false, .tuple p.2), none]) fun x hx => by simp
    try simp at h3
    simp [h3]
  try simp [-List.map_map] at h1
  try simp at h2
  simp [-List.map_map, F_packed, h1]
  rw [cap_le (by simp [lim_eq]; omega)]
  try simp [-List.map_map] at hp
  simp [-List.map_map, hp, h2]
  rw [cap_le (by rw [lim_eq]; omega)]
  simp
/-! ### unpacked -/
def splitW (ws : List Int) : List Int → List PyData → List (Int × List PyData)
  | [], _ => []
  | t :: r, ds => (t, ds.take (pick ws t).toNat) :: splitW ws r (ds.drop (pick ws t).toNat)
theorem rowW_nil (ws : List Int) : rowW ws [] = 0 := rfl
theorem rowW_cons (ws : List Int) (t : Int) (r : List Int) : rowW ws (t :: r) = pick ws t + rowW ws r := by
  unfold rowW
  rw [List.map_cons, List.sum_cons]
theorem rowW_app (ws : List Int) (a b : List Int) : rowW ws (a ++ b) = rowW ws a + rowW ws b := by
  unfold rowW
  rw [List.map_append, List.sum_append]
theorem pick_nn {ws : List Int} (hw : ∀ x ∈ ws, 0 ≤ x) (i : Int) : 0 ≤ pick ws i := by
  unfold pick
  rw [List.getD_eq_getElem?_getD]
  cases h : ws[i.toNat]? with
  | none => exact Int.le_refl 0
  | some x => exact hw x (List.mem_of_getElem? h)
theorem rowW_nn {ws : List Int} (hw : ∀ x ∈ ws, 0 ≤ x) : ∀ r : List Int, 0 ≤ rowW ws r
  | [] => Int.le_refl 0
  | t :: r => by
    rw [rowW_cons]
    have := rowW_nn hw r
    have := pick_nn hw t
    omega
theorem split_len (ws : List Int) : ∀ (r : List Int) (ds : List PyData), (splitW ws r ds).length = r.length
  | [], _ => rfl
  | t :: r, ds => by rw [splitW, List.length_cons, List.length_cons, split_len ws r]
theorem split_snoc {ws : List Int} (hw : ∀ x ∈ ws, 0 ≤ x) (t : Int) : ∀ (r : List Int) (ds : List PyData), splitW ws (r ++ [t]) ds = splitW ws r ds ++ [(t, (ds.drop (rowW ws r).toNat).take (pick ws t).toNat)]
  | [], ds => rfl
  | u :: r, ds => by
    rw [List.cons_append, splitW, splitW, split_snoc hw t r, List.cons_append, List.drop_drop, rowW_cons]
    have h1 := pick_nn hw u
    have h2 := rowW_nn hw r
    rw [show (pick ws u).toNat + (rowW ws r).toNat = (pick ws u + rowW ws r).toNat by omega]
theorem split_fst (ws : List Int) : ∀ (r : List Int) (ds : List PyData), (splitW ws r ds).map Prod.fst = r
  | [], _ => rfl
  | t :: r, ds => by rw [splitW, List.map_cons, split_fst ws r]
theorem split_flat (ws : List Int) : ∀ (r : List Int) (ds : List PyData), (splitW ws r ds).flatMap (fun p => p.2) = ds.take ((splitW ws r ds).map fun p => p.2.length).sum
  | [], ds => by simp [splitW]
  | t :: r, ds => by
    rw [splitW, List.flatMap_cons, split_flat ws r, List.map_cons, List.sum_cons]
    show ds.take _ ++ _ = ds.take ((ds.take (pick ws t).toNat).length + _)
    rw [List.length_take, List.take_add]
    by_cases h : (pick ws t).toNat ≤ ds.length
    · rw [Nat.min_eq_left h]
    · rw [Nat.min_eq_right (by omega), List.take_of_length_le (by omega), List.drop_of_length_le (by omega : ds.length ≤ (pick ws t).toNat), List.drop_length]
      simp
theorem split_whole {ws : List Int} (hw : ∀ x ∈ ws, 0 ≤ x) : ∀ (r : List Int) (ds : List PyData), rowW ws r = (ds.length : Int) → (splitW ws r ds).flatMap (fun p => p.2) = ds
  | [], ds, h => by
    rw [rowW_nil] at h
    have : ds.length = 0 := by omega
    rw [List.length_eq_zero_iff.mp this]
    rfl
  | t :: r, ds, h => by
    rw [rowW_cons] at h
    have p0 := pick_nn hw t
    have r0 := rowW_nn hw r
    rw [splitW, List.flatMap_cons, split_whole hw r _ (by rw [List.length_drop]; omega)]
    exact List.take_append_drop _ _
/-- the things of a row's fillings, cut again, are those -/
theorem split_join {ws : List Int} : ∀ {fs : List (Int × List PyData)}, (∀ p ∈ fs, ((p.2.length : Nat) : Int) = pick ws p.1) → splitW ws (fs.map Prod.fst) (fs.flatMap fun p => p.2) = fs
  | [], _ => rfl
  | (t, ds) :: fs, h => by
    have h1 : ((ds.length : Nat) : Int) = pick ws t := h _ List.mem_cons_self
    rw [List.map_cons, List.flatMap_cons, splitW]
    show (t, (ds ++ _).take (pick ws t).toNat) :: splitW ws (fs.map Prod.fst) ((ds ++ _).drop (pick ws t).toNat) = _
    rw [← h1, Int.toNat_natCast, List.take_left, List.drop_left, split_join fun p hp => h p (List.mem_cons_of_mem _ hp)]
theorem unpacked {us ws : List Int} {k : Int} {q : Int × List Int} {ds : List PyData} (hu : ∀ x ∈ us, 0 ≤ x ∧ x ≤ 60) (hl : us.length ≤ 10000) (hw : ∀ x ∈ ws, 0 ≤ x ∧ x ≤ 60) (hl2 : ws.length ≤ 10000) (hq : FillOk (ws.length : Int) us q) (hk : fnum (ws.length : Int) us q = k) (hd : rowW ws q.2 ≤ (ds.length : Int)) (hdl : ds.length ≤ 100000) :
    F_unpacked [cr us, cr ws, fil (k, ds)] = .ok (.tuple [.int q.1, .tuple ((splitW ws q.2 ds).map fil)]) := by
  have fa := filling_at hu hl (by omega) (by omega) hq hk
  have hw0 : ∀ x ∈ ws, 0 ≤ x := fun x hx => (hw x hx).1
  have hql : q.2.length ≤ 60 := by
    have := hu _ (List.mem_of_getElem? hq.2.2.1)
    omega
  obtain ⟨ρ', e, x, rfl⟩ := for_all (g := gN 8) (b := sSeq (sMut 7 appM (aCons (eTup (aCons (eVar 8) (aCons (eSl (eVar 4) eNoPart (ePart (e2 ixD (eVar 1) (eVar 8)))) aNil))) aNil)) (sSet 4 (eSl (eVar 4) (ePart (e2 ixD (eVar 1) (eVar 8))) eNoPart))) (ds := q.2.map PyData.int) (ρ := [some (false, cr us), some (false, cr ws), some (false, fil (k, ds)), some (false, .int k), some (false, .tuple ds), some (false, .int q.1), some (false, cr q.2), some (true, .list []), none])
    (fun j ρ => ∃ x, ρ = [some (false, cr us), some (false, cr ws), some (false, fil (k, ds)), some (false, .int k), some (false, .tuple (ds.drop (rowW ws (q.2.take j)).toNat)), some (false, .int q.1), some (false, cr q.2), some (true, .list ((splitW ws (q.2.take j) ds).map fil)), x]) ⟨none, by simp [rowW, splitW]⟩ (fun j d ρ hd' ⟨x, hρ⟩ => by
      subst hρ
      obtain ⟨t, ht, rfl⟩ := map_get' hd'
      have hb := hq.2.2.2 t (List.mem_of_getElem? ht)
      have hp := ix_cr (ws := ws) hb.1 hb.2
      have p0 := pick_nn hw0 t
      have r0 := rowW_nn hw0 (q.2.take j)
      have hr : rowW ws (q.2.take j) + pick ws t + rowW ws (q.2.drop (j + 1)) = rowW ws q.2 := by
        have e1 : q.2 = q.2.take j ++ (t :: q.2.drop (j + 1)) := by
          obtain ⟨hj, hj'⟩ := List.getElem?_eq_some_iff.mp ht
          rw [← hj', ← List.drop_eq_getElem_cons hj, List.take_append_drop]
        conv => rhs; rw [e1]
        rw [rowW_app, rowW_cons]
        omega
      have r1 := rowW_nn hw0 (q.2.drop (j + 1))
      have c1 : cutD (ds.drop (rowW ws (q.2.take j)).toNat) none (some (pick ws t)) = (ds.drop (rowW ws (q.2.take j)).toNat).take (pick ws t).toNat := cut_take p0 (by rw [List.length_drop]; omega)
      have c2 : cutD (ds.drop (rowW ws (q.2.take j)).toNat) (some (pick ws t)) none = (ds.drop (rowW ws (q.2.take j)).toNat).drop (pick ws t).toNat := cut_drop p0 (by rw [List.length_drop]; omega)
      have hj : j < q.2.length := (List.getElem?_eq_some_iff.mp ht).1
      have sl := split_len ws (q.2.take j) ds
      rw [take_snoc ht, split_snoc hw0, rowW_app, rowW_cons, rowW_nil]
      simp [-List.map_take, -List.map_drop, -List.map_append, hp, c1, c2, q_app (show (List.map fil (splitW ws (q.2.take j) ds)).length < lim by rw [List.length_map, sl, List.length_take, lim_eq]; omega)]
      rw [show (rowW ws (q.2.take j)).toNat + (pick ws t).toNat = (rowW ws (q.2.take j) + pick ws t).toNat by omega]
      simp)
  have e0 : dPair q = .tuple [.int q.1, cr q.2] := rfl
  simp [F_unpacked, fa, e0]
  try simp [-List.map_take] at e
  rw [e]
  simp
/-! ### what the laws draw -/
theorem law_cell {ns : List Int} {k : Int} (hl : ns.length ≤ 1000) (k0 : 0 ≤ k) (k1 : k ≤ 100000) : ∃ c, F_law_cell [scrD (ns.map PyData.int), .int k] = .ok (.int c) ∧ 0 ≤ c ∧ c < 1000000000000000000 := by
  have hp : powD (.int 10) (.int 18) = .ok (.int 1000000000000000000) := q_pow (by decide) (by decide) (by decide)
  by_cases hk : k < (ns.length : Int)
  · obtain ⟨x, hx⟩ : ∃ x, ns[k.toNat]? = some x := ⟨_, List.getElem?_eq_getElem (by omega)⟩
    have hi : ixD (scrD (ns.map PyData.int)) (.int k) = .ok (.int x) := q_ixS (at_int k0 (by rw [List.getElem?_map, hx]; rfl))
    have h18 := q_mod (i := x) (j := 1000000000000000000) (by decide)
    refine ⟨x % 1000000000000000000, ?_, by omega, by omega⟩
    simp [F_law_cell, hk, hi, hp, h18]
  · have m1 : mulD (.int 7) (.int k) = .ok (.int (7 * k)) := q_mul (wide_small (by decide) (by decide)) (wide_small (by omega) (by omega))
    have kk : 0 ≤ 7 * k * k ∧ 7 * k * k ≤ 7 * 100000 * 100000 := ⟨Int.mul_nonneg (by omega) k0, Int.mul_le_mul (by omega) k1 k0 (by decide)⟩
    have m2 : mulD (.int (7 * k)) (.int k) = .ok (.int (7 * k * k)) := q_mul (wide_small (by omega) (by omega)) (wide_small (by omega) (by omega))
    have fin : ∀ near : Int, 0 ≤ near → near < 2 ^ 100 → mulD (.int near) (.int 48271) = .ok (.int (near * 48271)) ∧ modD (.int (near * 48271)) (.int 2147483647) = .ok (.int (near * 48271 % 2147483647)) ∧ divD (.int (near * 48271 % 2147483647)) (.int 3) = .ok (.int (near * 48271 % 2147483647 / 3)) := fun near n0 n1 =>
      ⟨q_mul (wide_small (by omega) (by omega)) (wide_small (by decide) (by decide)), q_mod (by decide), q_div (by decide) (wide_small (by decide) (by decide))⟩
    by_cases h0 : 0 < (ns.length : Int)
    · have hm : 0 ≤ k % (ns.length : Int) ∧ k % (ns.length : Int) < (ns.length : Int) := ⟨Int.emod_nonneg _ (by omega), Int.emod_lt_of_pos _ h0⟩
      obtain ⟨x, hx⟩ : ∃ x, ns[(k % (ns.length : Int)).toNat]? = some x := ⟨_, List.getElem?_eq_getElem (by omega)⟩
      have hi : ixD (scrD (ns.map PyData.int)) (.int (k % (ns.length : Int))) = .ok (.int x) := q_ixS (at_int hm.1 (by rw [List.getElem?_map, hx]; rfl))
      have hx1 : 0 ≤ x % 1000003 ∧ x % 1000003 < 1000003 := ⟨Int.emod_nonneg _ (by decide), Int.emod_lt_of_pos _ (by decide)⟩
      have pr : 0 ≤ x % 1000003 * (k + 5) ∧ x % 1000003 * (k + 5) ≤ 1000003 * 100005 := ⟨Int.mul_nonneg hx1.1 (by omega), Int.mul_le_mul (by omega) (by omega) (by omega) (by decide)⟩
      have m3 : mulD (.int (x % 1000003)) (.int (k + 5)) = .ok (.int (x % 1000003 * (k + 5))) := q_mul (wide_small (by omega) (by omega)) (wide_small (by omega) (by omega))
      obtain ⟨a1, a2, a3⟩ := fin (17 + 7 * k * k + x % 1000003 * (k + 5)) (by omega) (by omega)
      have m4 := q_mod (i := x) (j := 1000003) (by decide)
      have h0' : 0 < ns.length := by omega
      refine ⟨(17 + 7 * k * k + x % 1000003 * (k + 5)) * 48271 % 2147483647 / 3, ?_, by omega, by omega⟩
      simp [F_law_cell, hk, m1, m2, h0, h0', q_mod h0, hi, m4, m3, a1, a2, a3]
    · obtain ⟨a1, a2, a3⟩ := fin (17 + 7 * k * k) (by omega) (by omega)
      have h0' : ¬ 0 < ns.length := by omega
      refine ⟨(17 + 7 * k * k) * 48271 % 2147483647 / 3, ?_, by omega, by omega⟩
      simp [F_law_cell, hk, m1, m2, h0, h0', a1, a2, a3]
theorem law_crate {c t w : Int} (c0 : 0 ≤ c) (t0 : 0 ≤ t) (t1 : t ≤ 10000) (w0 : 0 ≤ w) (w1 : w ≤ 10000) : ∃ ws : List Int, F_law_crate [.int c, .int t, .int w] = .ok (cr ws) ∧ (ws.length : Int) ≤ t ∧ ∀ x ∈ ws, 0 ≤ x ∧ x ≤ w := by
  have m0 : 0 ≤ c % (t + 1) ∧ c % (t + 1) < t + 1 := ⟨Int.emod_nonneg _ (by omega), Int.emod_lt_of_pos _ (by omega)⟩
  obtain ⟨ρ', e, ws, x, h1, h2, rfl⟩ := for_all (g := gN 4) (b := sMut 3 appM (aCons (e2 modD (e2 divD (eVar 0) (e2 addD (eC (.int 7)) (e2 mulD (e2 mulD (eC (.int 5)) (eVar 4)) (e2 addD (eVar 4) (eC (.int 1)))))) (e2 addD (eVar 2) (eC (.int 1)))) aNil)) (ds := (iota (c % (t + 1))).map PyData.int) (ρ := [some (false, .int c), some (false, .int t), some (false, .int w), some (true, .list []), none])
    (fun i ρ => ∃ (ws : List Int) (x : Option (Bool × PyData)), ws.length = i ∧ (∀ x ∈ ws, 0 ≤ x ∧ x ≤ w) ∧ ρ = [some (false, .int c), some (false, .int t), some (false, .int w), some (true, .list (ws.map PyData.int)), x]) ⟨[], none, rfl, (fun x hx => by cases hx), by simp⟩ (fun i d ρ hd ⟨ws, x, h1, h2, hρ⟩ => by
      subst hρ
      obtain ⟨k, hk, rfl⟩ := map_get' hd
      obtain ⟨kb0, kb1⟩ := iota_below _ k (List.mem_of_getElem? hk)
      have hi : i < (iota (c % (t + 1))).length := (List.getElem?_eq_some_iff.mp hk).1
      rw [iota_len] at hi
      have a1 : mulD (.int 5) (.int k) = .ok (.int (5 * k)) := q_mul (wide_small (by decide) (by decide)) (wide_small (by omega) (by omega))
      have a2 : mulD (.int (5 * k)) (.int (k + 1)) = .ok (.int (5 * k * (k + 1))) := q_mul (wide_small (by omega) (by omega)) (wide_small (by omega) (by omega))
      have b1 : 0 ≤ 5 * k * (k + 1) ∧ 5 * k * (k + 1) ≤ 5 * 10000 * 10001 := ⟨Int.mul_nonneg (by omega) (by omega), Int.mul_le_mul (by omega) (by omega) (by omega) (by decide)⟩
      have a3 := q_div (i := c) (j := 7 + 5 * k * (k + 1)) (by omega) (wide_small (by omega) (by omega))
      have a4 := q_mod (i := c / (7 + 5 * k * (k + 1))) (j := w + 1) (by omega)
      simp [a1, a2, a3, a4, q_app (show (ws.map PyData.int).length < lim by rw [List.length_map, lim_eq]; omega)]
      refine ⟨ws ++ [c / (7 + 5 * k * (k + 1)) % (w + 1)], by simp [h1], fun y hy => ?_, by simp⟩
      rcases List.mem_append.mp hy with hy | hy
      · exact h2 y hy
      · rw [List.mem_singleton.mp hy]
        have := Int.emod_lt_of_pos (c / (7 + 5 * k * (k + 1))) (show 0 < w + 1 by omega)
        have := Int.emod_nonneg (c / (7 + 5 * k * (k + 1))) (show w + 1 ≠ 0 by omega)
        omega)
  refine ⟨ws, ?_, ?_, h2⟩
  · simp [F_law_crate, q_mod (show 0 < t + 1 by omega), rgOk0 m0.1 (show c % (t + 1) ≤ 16777216 by omega), rgD0]
    rw [e]
    simp
  · rw [List.length_map, iota_len] at h1
    omega
/-! ### things that are equal to themselves -/
def Gd (n : Nat) (d : PyData) : Prop := Flat n d ∧ PyData.eqv d d = true
theorem gd_all {n : Nat} : ∀ {ds : List PyData}, (∀ d ∈ ds, Gd n d) → FlatL n ds ∧ PyData.eqvAll ds ds = true
  | [], _ => ⟨flatL_nil, by simp [PyData.eqvAll]⟩
  | d :: ds, h => by
    obtain ⟨h1, h2⟩ := gd_all (ds := ds) fun x hx => h x (List.mem_cons_of_mem _ hx)
    obtain ⟨h3, h4⟩ := h d List.mem_cons_self
    exact ⟨flatL_cons h3 h1, by simp [PyData.eqvAll, h2, h4]⟩
theorem gd_tup {n : Nat} {ds : List PyData} (h : ∀ d ∈ ds, Gd n d) : Gd (n + 1) (.tuple ds) := by
  obtain ⟨h1, h2⟩ := gd_all h
  exact ⟨flat_tup h1, by simp [PyData.eqv, h2]⟩
theorem gd_lst {n : Nat} {ds : List PyData} (h : ∀ d ∈ ds, Gd n d) : Gd (n + 1) (.list ds) := by
  obtain ⟨h1, h2⟩ := gd_all h
  exact ⟨flat_lst h1, by simp [PyData.eqv, h2]⟩
theorem gd_int {n : Nat} (i : Int) : Gd n (.int i) := ⟨flat_int i, by simp [PyData.eqv]⟩
theorem gd_bool {n : Nat} (b : Bool) : Gd n (.bool b) := ⟨flat_bl b, by simp [PyData.eqv]⟩
theorem gd_non {n : Nat} : Gd n .none := ⟨flat_non, by simp [PyData.eqv]⟩
theorem gd_str {n : Nat} {x : Str} (h : PyData.strOk x = true) : Gd n (.str x) := ⟨flat_str h, by simp [PyData.eqv]⟩
theorem Gd.mono {n m : Nat} {d : PyData} (h : Gd n d) (k : n ≤ m) : Gd m d := ⟨h.1.mono k, h.2⟩
theorem Gd.sh {n : Nat} {d : PyData} (h : Gd n d) (k : n ≤ 64 := by decide) : SeqAt.shaped d = true := h.1.shaped k
theorem gd_two {n : Nat} {a b : PyData} (h : Gd n a) (k : Gd n b) : Gd (n + 1) (.tuple [a, b]) := gd_tup fun d hd => by
  rcases List.mem_cons.mp hd with rfl | hd
  · exact h
  · rw [List.mem_singleton.mp hd]
    exact k
theorem gd_fil {n : Nat} {p : Int × List PyData} (h : ∀ d ∈ p.2, Gd n d) : Gd (n + 2) (fil p) := gd_two (gd_int _) (gd_tup h)
theorem gd_ints {n : Nat} (ws : List Int) : Gd (n + 1) (cr ws) := gd_tup fun d hd => by
  obtain ⟨i, _, rfl⟩ := List.mem_map.mp hd
  exact gd_int i
/-- the same datum twice -/
theorem ne_same {n : Nat} {d : PyData} (h : Gd n d) (k : n ≤ 64) : neD d d = .ok (.bool false) := by
  rw [q_ne (h.1.shaped k) (h.1.shaped k), h.2]
  rfl
theorem eq_same {n : Nat} {d : PyData} (h : Gd n d) (k : n ≤ 64) : eqD d d = .ok (.bool true) := by
  rw [q_eq (h.1.shaped k) (h.1.shaped k), h.2]
/-! ### plain, idle -/
theorem plain_cr {ws : List Int} {i : Nat} {x : Int} (g : ws[i]? = some x) (x0 : 0 ≤ x) (x1 : x ≤ 10000) : F_plain [cr ws, .int (i : Int)] = .ok (dPair ((i : Int), iota x)) := by
  have hi : ixD (cr ws) (.int (i : Int)) = .ok (.int x) := q_ixT (at_get (by rw [List.getElem?_map, g]; rfl))
  simp [F_plain, hi, rgOk0 x0 (show x ≤ 16777216 by omega), rgD0, dPair]
theorem idle_cr {ws : List Int} (hw : ∀ x ∈ ws, 0 ≤ x ∧ x ≤ 10000) (hl : ws.length ≤ 10000) : F_idle [cr ws] = .ok (dWay (idleW ws)) := by
  have h := lc_mapE (enc := PyData.int) (out := dPair) (h := fun x : Int => plainF ws x.toNat) (xs := iota (ws.length : Int)) (bd := bd1 (gN 1) tY (eCall F_plain (aCons (eVar 0) (aCons (eVar 1) aNil))) [some (false, cr ws), none]) fun x hx => by
    obtain ⟨x0, x1⟩ := iota_below _ x hx
    have g : ws[x.toNat]? = some ws[x.toNat] := List.getElem?_eq_getElem (by omega)
    have hb := hw _ (List.mem_of_getElem? g)
    have := plain_cr g hb.1 hb.2
    rw [show ((x.toNat : Nat) : Int) = x by omega] at this
    simp [this]
    rw [plainF_get g, show ((x.toNat : Nat) : Int) = x by omega]
  have e : (iota (ws.length : Int)).map (fun x : Int => plainF ws x.toNat) = idleW ws := by
    unfold iota idleW
    rw [List.map_map, Int.toNat_natCast]
    refine List.map_congr_left fun i _ => ?_
    show plainF ws ((i : Int)).toNat = _
    rw [Int.toNat_natCast]
  rw [e] at h
  simp [F_idle, rgOk0 (show (0 : Int) ≤ (ws.length : Int) by omega) (show (ws.length : Int) ≤ 16777216 by omega), rgD0]
  try simp at h
  rw [h, cap_le (by rw [List.length_map, idle_len, lim_eq]; omega)]
  simp [dWay]
/-! ### turned, after -/
def pickD (ds : List PyData) (y : Int) : PyData := ds.getD y.toNat .none
theorem pickD_ix {ds : List PyData} {y : Int} (h0 : 0 ≤ y) (h1 : y < (ds.length : Int)) : ixD (.tuple ds) (.int y) = .ok (pickD ds y) := by
  refine q_ixT (at_int h0 ?_)
  unfold pickD
  rw [List.getD_eq_getElem?_getD, List.getElem?_eq_getElem (by omega)]
  rfl
theorem ix_way {wy : List (Int × List Int)} {s : Int} {p : Int × List Int} (s0 : 0 ≤ s) (g : wy[s.toNat]? = some p) : ixD (dWay wy) (.int s) = .ok (dPair p) := q_ixT (at_int s0 (by rw [List.getElem?_map, g]; rfl))
theorem turned_any {wy : List (Int × List Int)} {s : Int} {ds : List PyData} {p : Int × List Int} (s0 : 0 ≤ s) (g : wy[s.toNat]? = some p) (hb : Below (ds.length : Int) p.2) (hl : p.2.length ≤ 10000) : F_turned [dWay wy, fil (s, ds)] = .ok (fil (p.1, p.2.map (pickD ds))) := by
  have h := lc_mapE (enc := PyData.int) (out := fun d : PyData => d) (h := pickD ds) (xs := p.2) (bd := bd1 (gN 6) tY (e2 ixD (eVar 3) (eVar 6)) [some (false, dWay wy), some (false, fil (s, ds)), some (false, .int s), some (false, .tuple ds), some (false, .int p.1), some (false, cr p.2), none]) fun x hx => by
    simp [pickD_ix (hb x hx).1 (hb x hx).2]
  have hi := ix_way s0 g
  simp [F_turned, hi, dPair]
  try simp at h
  rw [h, cap_le (by simp [lim_eq]; omega)]
  simp
theorem law_turned_any {wy : List (Int × List Int)} {s : Int} {ds : List PyData} {p : Int × List Int} (s0 : 0 ≤ s) (g : wy[s.toNat]? = some p) (hb : Below (ds.length : Int) p.2) (hl : p.2.length ≤ 10000) : F_law_turned [dWay wy, fil (s, ds)] = .ok (fil (p.1, p.2.map (pickD ds))) := by
  have i0 : ixD (fil (s, ds)) (.int 0) = .ok (.int s) := q_ixT (at_get (i := 0) rfl)
  have i1 : ixD (fil (s, ds)) (.int 1) = .ok (.tuple ds) := q_ixT (at_get (i := 1) rfl)
  have h := lc_mapE (enc := PyData.int) (out := fun d : PyData => d) (h := pickD ds) (xs := p.2) (bd := bd1 (gN 4) tY (e2 ixD (e2 ixD (eVar 1) (eC (.int 1))) (eVar 4)) [some (false, dWay wy), some (false, fil (s, ds)), some (false, .int p.1), some (false, cr p.2), none]) fun x hx => by
    simp [i1, pickD_ix (hb x hx).1 (hb x hx).2]
  have hi := ix_way s0 g
  simp [F_law_turned, i0, hi, dPair]
  try simp at h
  rw [h, cap_le (by simp [lim_eq]; omega)]
  simp
theorem pickD_ints {r ys : List Int} (h : Below (r.length : Int) ys) : ys.map (pickD (r.map PyData.int)) = (ys.map (pick r)).map PyData.int := by
  rw [List.map_map]
  refine List.map_congr_left fun y hy => ?_
  obtain ⟨h0, h1⟩ := h y hy
  show (r.map PyData.int).getD y.toNat .none = PyData.int (r.getD y.toNat 0)
  rw [List.getD_eq_getElem?_getD, List.getD_eq_getElem?_getD, List.getElem?_map, List.getElem?_eq_getElem (by omega)]
  rfl
theorem dPair_fil (p : Int × List Int) : dPair p = fil (p.1, p.2.map PyData.int) := rfl
theorem turned_way {us xs : List Int} {w : List (Int × List Int)} {x : Int} {p : Int × List Int} (hw : WayOk us xs w) (hp : FillOk x us p) (hx : ∀ v ∈ xs, v ≤ 10000) : F_turned [dWay w, dPair p] = .ok (dPair (stepW w p)) ∧ F_law_turned [dWay w, dPair p] = .ok (dPair (stepW w p)) := by
  obtain ⟨q, gq, fq⟩ := way_at hw hp
  have hl : q.2.length ≤ 10000 := by have := hx _ (List.mem_of_getElem? fq.2.2.1); omega
  have hb : Below (((p.2.map PyData.int).length : Nat) : Int) q.2 := by rw [List.length_map]; exact fq.2.2.2
  have h1 := turned_any (ds := p.2.map PyData.int) hp.1 gq hb hl
  have h2 := law_turned_any (ds := p.2.map PyData.int) hp.1 gq hb hl
  rw [pickD_ints fq.2.2.2] at h1 h2
  rw [step_some gq]
  exact ⟨h1, h2⟩
theorem after_way {ws us xs : List Int} {v w : List (Int × List Int)} (hv : WayOk ws us v) (hw : WayOk us xs w) (hx : ∀ y ∈ xs, y ≤ 10000) (hl : ws.length ≤ 10000) : F_after [dWay v, dWay w] = .ok (dWay (thenW v w)) := by
  have h := lc_mapE (enc := dPair) (out := dPair) (h := stepW w) (xs := v) (bd := bd1 (gN 2) tY (eCall F_turned (aCons (eVar 1) (aCons (eVar 2) aNil))) [some (false, dWay v), some (false, dWay w), none]) fun p hp => by
    obtain ⟨i, hi, rfl⟩ := List.getElem_of_mem hp
    have hi2 : i < ws.length := by rw [← hv.1]; exact hi
    have fo := hv.2 i _ _ (List.getElem?_eq_getElem hi) (List.getElem?_eq_getElem hi2)
    simp [(turned_way hw fo hx).1]
  have e : itemsD (dWay v) = .ok (v.map dPair) := rfl
  simp [F_after, e]
  try simp at h
  rw [h, cap_le (by simp [lim_eq]; rw [hv.1]; omega)]
  simp [dWay, thenW]
/-! ### is_way of a way -/
theorem fits_pairI {us : List Int} {p : Int × List Int} : F_fits [cr us, dPair p] = .ok (.bool (fitsD us (dPair p))) := by
  have t1 : isiD "tuple" (dPair p) = .ok (.bool true) := isi_tuple (d := dPair p) (fun _ h => by cases h)
  have t2 : isiD "tuple" (cr p.2) = .ok (.bool true) := isi_tuple (d := cr p.2) (fun _ h => by cases h)
  have l2 : lenD [dPair p] = .ok (.int 2) := rfl
  have e22 : ((2 : Int) == 2) = true := rfl
  have gp : ∀ ρ : Ev, gT 2 (gsC (gN 2) (gsC (gN 3) gsN)) (dPair p) ρ = .ok ((ρ.set 2 (some (false, .int p.1))).set 3 (some (false, cr p.2))) := fun ρ => by simp [dPair]
  have hfd : fitsD us (dPair p) = (decide (0 ≤ p.1) && decide (p.1 < (us.length : Int)) && decide (us[p.1.toNat]? = some ((p.2.length : Nat) : Int))) := by
    show fitsD us (.tuple [.int p.1, .tuple (p.2.map PyData.int)]) = _
    simp [fitsD]
  rw [hfd]
  simp [F_fits, F_is_pair, t1, t2, l2, gp, is_below_int]
  by_cases h0 : 0 ≤ p.1
  · by_cases h1 : p.1 < (us.length : Int)
    · have hx := ix_cr (ws := us) h0 h1
      have hg := pick_in h0 h1
      have h1' : ¬ (us.length : Int) ≤ p.1 := by omega
      rw [hg]
      simp [h0, h1, h1', hx, t2]
      rw [Bool.eq_iff_iff]
      simp
      exact eq_comm
    · have h1' : (us.length : Int) ≤ p.1 := by omega
      simp [h0, h1, h1']
  · have h0' : ¬ 0 ≤ p.1 := h0
    simp [h0]
theorem leads_pair {us : List Int} {x : Int} {p : Int × List Int} (hl : p.2.length ≤ 100000) : F_leads [.int x, cr us, dPair p] = .ok (.bool (pairD us x (dPair p))) := by
  have hf := fits_pairI (us := us) (p := p)
  have hi : ixD (dPair p) (.int 1) = .ok (cr p.2) := q_ixT (at_get (i := 1) rfl)
  have h := lc_mapE (enc := PyData.int) (out := PyData.bool) (h := fun y => decide (0 ≤ y) && decide (y < x)) (xs := p.2) (bd := bd1 (gN 3) tY (eCall F_is_below (aCons (eVar 3) (aCons (eVar 0) aNil))) [some (false, .int x), some (false, cr us), some (false, dPair p), none]) fun y hy => by
    simp [is_below_int]
  cases hb : fitsD us (dPair p) with
  | false =>
    rw [hb] at hf
    simp [F_leads, hf, pair_fits hb]
  | true =>
    rw [hb] at hf
    obtain ⟨t, fs, e, _, _, _, hx⟩ := fits_shape hb
    have e2 : fs = p.2.map PyData.int := by
      have : PyData.tuple [.int p.1, .tuple (p.2.map PyData.int)] = .tuple [.int t, .tuple fs] := e
      simp at this
      exact this.2.symm
    simp [F_leads, hf, hi]
    try simp [-List.map_map] at h
    rw [h, cap_le (by simp [lim_eq]; omega)]
    have := q_all (p.2.map fun y => decide (0 ≤ y) && decide (y < x))
    simp [-List.map_map, -List.all_map, this]
    rw [hx x, e2, List.all_map, List.all_map]
    rfl
theorem zip_map {α β : Type} (f : α → PyData) (g : β → PyData) : ∀ (as : List α) (bs : List β), zipD (as.map f) (bs.map g) = (as.zip bs).map fun p => .tuple [f p.1, g p.2]
  | [], _ => by simp [zipD]
  | _ :: _, [] => by simp [zipD]
  | a :: as, b :: bs => by simp [zipD, zip_map f g as bs]
theorem is_table_way {ws us : List Int} {wy : List (Int × List Int)} (hl : ws.length ≤ 10000) (hp : ∀ p ∈ wy, p.2.length ≤ 100000) : F_is_table [cr ws, cr us, dWay wy] = .ok (.bool (isWayD ws us (dWay wy))) := by
  have t1 : isiD "tuple" (dWay wy) = .ok (.bool true) := isi_tuple (d := dWay wy) (fun _ h => by cases h)
  have l1 : lenD [dWay wy] = .ok (.int wy.length) := by show Rs.ok (PyData.int ((wy.map dPair).length : Int)) = _; rw [List.length_map]
  simp [F_is_table, t1, l1]
  by_cases he : wy.length = ws.length
  · have h := lc_mapE (enc := fun p : Int × (Int × List Int) => PyData.tuple [.int p.1, dPair p.2]) (out := PyData.bool) (h := fun p : Int × (Int × List Int) => pairD us p.1 (dPair p.2)) (xs := ws.zip wy) (bd := bd1 (gT 2 (gsC (gN 3) (gsC (gN 4) gsN))) tY (eCall F_leads (aCons (eVar 3) (aCons (eVar 1) (aCons (eVar 4) aNil)))) [some (false, cr ws), some (false, cr us), some (false, dWay wy), none, none]) fun p hpm => by
      have := leads_pair (us := us) (x := p.1) (p := p.2) (hp _ (List.of_mem_zip hpm).2)
      simp [this]
    have hz := zip_map PyData.int dPair ws wy
    have hd := isWayD_table (ws := ws) (us := us) (ds := wy.map dPair) (by rw [List.length_map]; exact he)
    have e2 : (ws.zip (wy.map dPair)).map (fun p => pairD us p.1 p.2) = (ws.zip wy).map fun p => pairD us p.1 (dPair p.2) := by
      rw [List.zip_map_right, List.map_map]
      rfl
    rw [e2] at hd
    simp [he]
    try simp [-List.map_map] at h
    have e3 : ∀ ρ : Ev, iZipD (aCons (eVar 0) (aCons (eVar 2) aNil)) [some (false, cr ws), some (false, cr us), some (false, dWay wy), none, none] = .ok ((ws.zip wy).map fun p => PyData.tuple [.int p.1, dPair p.2]) := fun _ => by
      simp [dWay, hz]
    simp [dWay, hz]
    simp [dWay] at h
    rw [h, cap_le (by simp [lim_eq]; omega)]
    have := q_all ((ws.zip wy).map fun p => pairD us p.1 (dPair p.2))
    rw [List.map_map] at this
    simp [-List.map_map, -List.all_map, this]
    exact hd.symm
  · have hd : isWayD ws us (dWay wy) = false := pairs_len (by rw [List.length_map]; exact he)
    have he' : ¬ ((wy.length : Int) = (ws.length : Int)) := by omega
    simp [he, he', hd]
theorem is_way_yes {ws us : List Int} {wy : List (Int × List Int)} (hw : ∀ x ∈ ws, 0 ≤ x ∧ x ≤ 12) (hl : ws.length ≤ 60) (hu : ∀ x ∈ us, 0 ≤ x ∧ x ≤ 12) (hl2 : us.length ≤ 60) (ok : WayOk ws us wy) : F_is_way [cr ws, cr us, dWay wy] = .ok (.bool true) := by
  have hp : ∀ p ∈ wy, p.2.length ≤ 100000 := fun p hp => by
    obtain ⟨i, hi, rfl⟩ := List.getElem_of_mem hp
    have fo := ok.2 i _ _ (List.getElem?_eq_getElem hi) (List.getElem?_eq_getElem (by rw [← ok.1]; exact hi))
    have := hu _ (List.mem_of_getElem? fo.2.2.1)
    omega
  have h1 := is_crate_cr (ws := ws) (by omega)
  have h2 := is_crate_cr (ws := us) (by omega)
  have h3 := is_table_way (ws := ws) (us := us) (wy := wy) (by omega) hp
  rw [crateD_ints hl hw] at h1
  rw [crateD_ints hl2 hu] at h2
  rw [isWayD_ok ok] at h3
  simp [F_is_way, h1, h2, h3]
/-! ### crates joined and multiplied -/
theorem joined_cr {a b : List Int} (ha : a.length ≤ 10000) (hb : b.length ≤ 10000) : F_joined [cr a, cr b] = if crateD (cr (a ++ b)) = true then .ok (cr (a ++ b)) else .err "TooBig" := by
  have h := bounded_cr (ws := a ++ b) (by rw [List.length_append]; omega)
  have e : addD (cr a) (cr b) = .ok (cr (a ++ b)) := by
    rw [q_addT (by simp [lim_eq]; omega)]
    simp
  simp [-List.map_append, F_joined, e, h]
  by_cases hc : crateD (cr (a ++ b)) = true
  · rw [if_pos hc]; rfl
  · rw [if_neg hc]; rfl
theorem mulC_len (a b : List Int) : (mulC a b).length = a.length * b.length := by
  unfold mulC
  induction a with
  | nil => simp
  | cons x a ih => rw [List.flatMap_cons, List.length_append, ih, List.length_map, List.length_cons, Nat.succ_mul]; omega
theorem multiplied_cr {a b : List Int} (ha : a.length ≤ 300) (hb : b.length ≤ 300) : F_multiplied [cr a, cr b] = if crateD (cr (mulC a b)) = true then .ok (cr (mulC a b)) else .err "TooBig" := by
  have hm : a.length * b.length ≤ 300 * 300 := Nat.mul_le_mul ha hb
  have h := bounded_cr (ws := mulC a b) (by rw [mulC_len]; omega)
  have h2 := lc_flatE (enc := PyData.int) (h := fun x : Int => (b.map fun y => x + y).map PyData.int) (xs := a) (bd := bd2 [3] (gN 2) tY (iItems (eVar 1)) (gN 3) tY (e2 addD (eVar 2) (eVar 3)) [some (false, cr a), some (false, cr b), none, none]) fun x hx => by
    have h3 := lc_mapE (enc := PyData.int) (out := PyData.int) (h := fun y : Int => x + y) (xs := b) (bd := bd1 (gN 3) tY (e2 addD (eVar 2) (eVar 3)) [some (false, cr a), some (false, cr b), some (false, .int x), none]) fun y hy => by simp
    try simp [-List.map_map] at h3
    simp [-List.map_map, h3]
  have e : (a.flatMap fun x : Int => (b.map fun y => x + y).map PyData.int) = (mulC a b).map PyData.int := by
    unfold mulC
    rw [List.map_flatMap]
  rw [e] at h2
  simp [F_multiplied]
  try simp [-List.map_map] at h2
  rw [h2, cap_le (by rw [List.length_map, mulC_len, lim_eq]; omega)]
  simp [h]
  by_cases hc : crateD (cr (mulC a b)) = true
  · rw [if_pos hc]; rfl
  · rw [if_neg hc]; rfl
/-! ### crates put together, told by the trays -/
theorem flat_range {α : Type} (us : List Int) (f : Int → List α) : ((List.range us.length).flatMap fun j => f (us.getD j 0)) = us.flatMap f := by
  have e : us = (List.range us.length).map fun j => us.getD j 0 := by
    refine List.ext_getElem? fun j => ?_
    rw [List.getElem?_map]
    by_cases hj : j < us.length
    · rw [List.getElem?_range hj, List.getElem?_eq_getElem hj]
      simp [hj]
    · rw [List.getElem?_eq_none (by omega), List.getElem?_eq_none (by rw [List.length_range]; omega)]
      rfl
  conv => rhs; rw [e]
  rw [List.flatMap_map]
theorem putC_flat (us ws : List Int) : putC us ws = us.flatMap fun x => (rows ws.length x.toNat).map (rowW ws) := by
  unfold putC fills
  rw [List.map_flatMap, ← flat_range]
  refine congrArg (fun f => List.flatMap f _) (funext fun j => ?_)
  unfold one
  rw [List.map_map]
  rfl
theorem rows_one : ∀ w : Nat, rows 1 w = [List.replicate w 0]
  | 0 => rfl
  | w + 1 => by
    show (rows 1 w).flatMap _ = _
    rw [rows_one w, List.flatMap_singleton]
    simp [List.replicate_succ']
theorem rowW_one : ∀ w : Nat, rowW [1] (List.replicate w 0) = (w : Int)
  | 0 => rfl
  | w + 1 => by
    rw [List.replicate_succ, rowW_cons, rowW_one w]
    show (1 : Int) + w = _
    omega
theorem putC_oneR {ws : List Int} (h : ∀ x ∈ ws, 0 ≤ x) : putC ws [1] = ws := by
  rw [putC_flat]
  induction ws with
  | nil => rfl
  | cons a ws ih =>
    rw [List.flatMap_cons, ih fun x hx => h x (List.mem_cons_of_mem _ hx)]
    show (rows 1 a.toNat).map (rowW [1]) ++ ws = _
    rw [rows_one, List.map_singleton, rowW_one]
    have := h a List.mem_cons_self
    rw [show ((a.toNat : Nat) : Int) = a by omega]
    rfl
theorem range_pick (ws : List Int) : (List.range ws.length).map (fun (t : Nat) => pick ws (t : Int)) = ws := by
  refine List.ext_getElem? fun j => ?_
  rw [List.getElem?_map]
  by_cases hj : j < ws.length
  · rw [List.getElem?_range hj, List.getElem?_eq_getElem hj]
    simp [pick, hj]
  · rw [List.getElem?_eq_none (by rw [List.length_range]; omega), List.getElem?_eq_none (by omega)]
    rfl
theorem putC_oneL (ws : List Int) : putC [1] ws = ws := by
  rw [putC_flat, List.flatMap_singleton]
  show ((rows ws.length 1).map (rowW ws)) = ws
  have e : rows ws.length 1 = (List.range ws.length).map fun (t : Nat) => [(t : Int)] := by
    show ([[]] : List (List Int)).flatMap _ = _
    rw [List.flatMap_singleton]
    rfl
  rw [e, List.map_map]
  conv => rhs; rw [← range_pick ws]
  refine List.map_congr_left fun t _ => ?_
  show rowW ws [(t : Int)] = _
  rw [rowW_cons, rowW_nil]
  omega
theorem putC_nil {ws : List Int} (h : ∀ x ∈ ws, 0 ≤ x) : putC ws [] = ws.filter fun x => x == 0 := by
  rw [putC_flat]
  induction ws with
  | nil => rfl
  | cons a ws ih =>
    rw [List.flatMap_cons, ih fun x hx => h x (List.mem_cons_of_mem _ hx), List.filter_cons]
    have ha := h a List.mem_cons_self
    by_cases e : a = 0
    · subst e
      rfl
    · have : (a == 0) = false := by simp [e]
      rw [this]
      obtain ⟨w, hw⟩ : ∃ w, a.toNat = w + 1 := ⟨a.toNat - 1, by omega⟩
      rw [hw]
      show ((rows 0 w).flatMap fun r => ([] : List (List Int))).map _ ++ _ = _
      simp
theorem mulC_zeroR (ws : List Int) : mulC ws [0] = ws := by
  unfold mulC
  induction ws with
  | nil => rfl
  | cons a ws ih =>
    rw [List.flatMap_cons, ih, List.map_singleton, Int.add_zero]
    rfl
theorem mulC_zeroL (ws : List Int) : mulC [0] ws = ws := by
  unfold mulC
  rw [List.flatMap_singleton]
  simp
theorem mulC_nil (ws : List Int) : mulC ws [] = [] := by
  unfold mulC
  simp
/-! ### fillings whose things are fillings -/
def toD (p : Int × List Int) : Int × List PyData := (p.1, p.2.map PyData.int)
theorem fil_toD (p : Int × List Int) : fil (toD p) = dPair p := rfl
def deepD (D : Int × List (Int × List Int)) : PyData := .tuple [.int D.1, .tuple (D.2.map dPair)]
def splitI (ws : List Int) : List Int → List Int → List (Int × List Int)
  | [], _ => []
  | t :: r, xs => (t, xs.take (pick ws t).toNat) :: splitI ws r (xs.drop (pick ws t).toNat)
theorem splitI_D (ws : List Int) : ∀ r xs : List Int, splitW ws r (xs.map PyData.int) = (splitI ws r xs).map toD
  | [], _ => rfl
  | t :: r, xs => by
    rw [splitW, splitI, List.map_cons, ← List.map_take, ← List.map_drop, splitI_D ws r]
    rfl
theorem splitI_fst (ws : List Int) : ∀ r xs : List Int, (splitI ws r xs).map Prod.fst = r
  | [], _ => rfl
  | t :: r, xs => by rw [splitI, List.map_cons, splitI_fst ws r]
theorem splitI_map (ws : List Int) (f : Int → Int) : ∀ r xs : List Int, splitI ws r (xs.map f) = (splitI ws r xs).map fun p => (p.1, p.2.map f)
  | [], _ => rfl
  | t :: r, xs => by
    rw [splitI, splitI, List.map_cons, ← List.map_take, ← List.map_drop, splitI_map ws f r]
theorem splitI_whole {ws : List Int} (hw : ∀ x ∈ ws, 0 ≤ x) : ∀ r xs : List Int, rowW ws r = (xs.length : Int) → (splitI ws r xs).flatMap (fun p => p.2) = xs
  | [], xs, h => by
    rw [rowW_nil] at h
    have : xs.length = 0 := by omega
    rw [List.length_eq_zero_iff.mp this]
    rfl
  | t :: r, xs, h => by
    rw [rowW_cons] at h
    have p0 := pick_nn hw t
    have r0 := rowW_nn hw r
    rw [splitI, List.flatMap_cons, splitI_whole hw r _ (by rw [List.length_drop]; omega)]
    exact List.take_append_drop _ _
theorem splitI_join {ws : List Int} : ∀ {fs : List (Int × List Int)}, (∀ p ∈ fs, ((p.2.length : Nat) : Int) = pick ws p.1) → splitI ws (fs.map Prod.fst) (fs.flatMap fun p => p.2) = fs
  | [], _ => rfl
  | (t, ds) :: fs, h => by
    have h1 : ((ds.length : Nat) : Int) = pick ws t := h _ List.mem_cons_self
    rw [List.map_cons, List.flatMap_cons, splitI]
    show (t, (ds ++ _).take (pick ws t).toNat) :: splitI ws (fs.map Prod.fst) ((ds ++ _).drop (pick ws t).toNat) = _
    rw [← h1, Int.toNat_natCast, List.take_left, List.drop_left, splitI_join fun p hp => h p (List.mem_cons_of_mem _ hp)]
theorem splitI_ok {x : Int} {ws : List Int} (hw : ∀ x ∈ ws, 0 ≤ x) : ∀ r xs : List Int, Below (ws.length : Int) r → rowW ws r = (xs.length : Int) → Below x xs → ∀ p ∈ splitI ws r xs, FillOk x ws p
  | [], _, _, _, _ => fun p hp => by cases hp
  | t :: r, xs, hb, hr, hx => fun p hp => by
    obtain ⟨t0, t1, hb'⟩ := below_cons hb
    rw [rowW_cons] at hr
    have p0 := pick_nn hw t
    have r0 := rowW_nn hw r
    rw [splitI] at hp
    rcases List.mem_cons.mp hp with rfl | hp
    · refine ⟨t0, t1, ?_, fun y hy => hx y (List.mem_of_mem_take hy)⟩
      show ws[t.toNat]? = _
      rw [pick_in t0 t1]
      show some (pick ws t) = some (((xs.take (pick ws t).toNat).length : Nat) : Int)
      rw [List.length_take]
      congr 1
      omega
    · exact splitI_ok hw r _ hb' (by rw [List.length_drop]; omega) (fun y hy => hx y (List.mem_of_mem_drop hy)) p hp
/-! ### packed, unpacked, of whole numbers -/
def packI (us ws : List Int) (D : Int × List (Int × List Int)) : Int × List Int := (fnum (ws.length : Int) us (D.1, D.2.map Prod.fst), D.2.flatMap fun p => p.2)
def unpackI (us ws : List Int) (p : Int × List Int) : Int × List (Int × List Int) :=
  match (fills ws.length us us.length)[p.1.toNat]? with
  | some q => (q.1, splitI ws q.2 p.2)
  | none => (0, [])
theorem unpackI_some {us ws : List Int} {p q : Int × List Int} (h : (fills ws.length us us.length)[p.1.toNat]? = some q) : unpackI us ws p = (q.1, splitI ws q.2 p.2) := by
  unfold unpackI
  rw [h]
def DeepOk (us ws : List Int) (x : Int) (D : Int × List (Int × List Int)) : Prop := FillOk (ws.length : Int) us (D.1, D.2.map Prod.fst) ∧ ∀ p ∈ D.2, FillOk x ws p
def Small (ws : List Int) : Prop := ∀ x ∈ ws, 0 ≤ x ∧ x ≤ 12
theorem fills_many {us : List Int} (n : Nat) (hu : Small us) : (((fills n us us.length).length : Nat) : Int) = cnt (n : Int) us := by
  have := fills_len (n := n) (ws := us) (Nat.le_refl us.length)
  rw [List.take_length] at this
  omega
theorem fill_at {n : Nat} {us : List Int} {q : Int × List Int} (hu : Small us) (hq : FillOk (n : Int) us q) : (fills n us us.length)[(fnum (n : Int) us q).toNat]? = some q := by
  have b := fnum_bound (n := (n : Int)) (by omega) hq
  have l := fills_many n hu
  have hlt : (fnum (n : Int) us q).toNat < (fills n us us.length).length := by omega
  have g : (fills n us us.length)[(fnum (n : Int) us q).toNat]? = some (fills n us us.length)[(fnum (n : Int) us q).toNat] := List.getElem?_eq_getElem hlt
  obtain ⟨f1, f2⟩ := fills_num hu g
  have e := wnum_inj (us := us) (ws := [(n : Int)]) (fun x hx => by rw [List.mem_singleton.mp hx]; omega) (one_way f1) (one_way hq) (by rw [one_num, one_num, f2]; omega)
  rw [g]
  exact congrArg some (List.cons.inj e).1
theorem putC_len {us : List Int} (ws : List Int) (hu : Small us) : (((putC us ws).length : Nat) : Int) = cnt (ws.length : Int) us := by
  unfold putC
  rw [List.length_map]
  exact fills_many _ hu
theorem putC_get {us ws : List Int} {i : Nat} {q : Int × List Int} (h : (fills ws.length us us.length)[i]? = some q) : (putC us ws)[i]? = some (rowW ws q.2) := by
  unfold putC
  rw [List.getElem?_map, h]
  rfl
theorem fill_pick {x : Int} {ws : List Int} {p : Int × List Int} (h : FillOk x ws p) : ((p.2.length : Nat) : Int) = pick ws p.1 := by
  have := pick_in h.1 h.2.1
  rw [h.2.2.1] at this
  exact Option.some.inj this
theorem flat_row {ws : List Int} : ∀ {fs : List (Int × List Int)}, (∀ p ∈ fs, ((p.2.length : Nat) : Int) = pick ws p.1) → (((fs.flatMap fun p => p.2).length : Nat) : Int) = rowW ws (fs.map Prod.fst)
  | [], _ => rfl
  | a :: fs, h => by
    have := flat_row fun p hp => h p (List.mem_cons_of_mem _ hp)
    have := h a List.mem_cons_self
    rw [List.flatMap_cons, List.map_cons, rowW_cons, List.length_append]
    omega
theorem pack_ok {us ws : List Int} {x : Int} {D : Int × List (Int × List Int)} (hu : Small us) (h : DeepOk us ws x D) : FillOk x (putC us ws) (packI us ws D) := by
  have b := fnum_bound (n := (ws.length : Int)) (by omega) h.1
  have l := putC_len ws hu
  refine ⟨b.1, by rw [l]; exact b.2, ?_, fun y hy => ?_⟩
  · have := putC_get (fill_at hu h.1)
    show (putC us ws)[(fnum (ws.length : Int) us (D.1, D.2.map Prod.fst)).toNat]? = _
    rw [this, ← flat_row fun p hp => fill_pick (h.2 p hp)]
    rfl
  · obtain ⟨p, hp, hy⟩ := List.mem_flatMap.mp hy
    exact (h.2 p hp).2.2.2 y hy
theorem unpack_ok {us ws : List Int} {x : Int} {p : Int × List Int} (hu : Small us) (hw : Small ws) (h : FillOk x (putC us ws) p) : ∃ q, (fills ws.length us us.length)[p.1.toNat]? = some q ∧ FillOk (ws.length : Int) us q ∧ fnum (ws.length : Int) us q = p.1 ∧ rowW ws q.2 = ((p.2.length : Nat) : Int) ∧ DeepOk us ws x (unpackI us ws p) ∧ packI us ws (unpackI us ws p) = p := by
  have l := putC_len ws hu
  have l2 := fills_many ws.length hu
  have hlt : p.1.toNat < (fills ws.length us us.length).length := by have := h.1; have := h.2.1; omega
  have g : (fills ws.length us us.length)[p.1.toNat]? = some (fills ws.length us us.length)[p.1.toNat] := List.getElem?_eq_getElem hlt
  generalize (fills ws.length us us.length)[p.1.toNat] = q at g
  obtain ⟨f1, f2⟩ := fills_num hu g
  have hr : rowW ws q.2 = ((p.2.length : Nat) : Int) := by
    have := putC_get g
    rw [h.2.2.1] at this
    exact (Option.some.inj this).symm
  have hw0 : ∀ x ∈ ws, 0 ≤ x := fun x hx => (hw x hx).1
  have hp0 := h.1
  have fq : fnum (ws.length : Int) us q = p.1 := by rw [f2]; omega
  refine ⟨q, g, f1, fq, hr, ?_, ?_⟩
  · rw [unpackI_some g]
    refine ⟨?_, splitI_ok hw0 _ _ f1.2.2.2 hr h.2.2.2⟩
    show FillOk _ us (q.1, (splitI ws q.2 p.2).map Prod.fst)
    rw [splitI_fst]
    exact f1
  · rw [unpackI_some g]
    show (fnum (ws.length : Int) us (q.1, (splitI ws q.2 p.2).map Prod.fst), (splitI ws q.2 p.2).flatMap fun p => p.2) = p
    rw [splitI_fst, splitI_whole hw0 _ _ hr]
    show (fnum (ws.length : Int) us q, p.2) = p
    rw [fq]
theorem unpack_pack {us ws : List Int} {x : Int} {D : Int × List (Int × List Int)} (hu : Small us) (h : DeepOk us ws x D) : unpackI us ws (packI us ws D) = D := by
  rw [unpackI_some (p := packI us ws D) (fill_at hu h.1)]
  show (D.1, splitI ws (D.2.map Prod.fst) (D.2.flatMap fun p => p.2)) = D
  rw [splitI_join fun p hp => fill_pick (h.2 p hp)]
/-! ### ways done without and within -/
def pickP (fs : List (Int × List Int)) (y : Int) : Int × List Int := fs.getD y.toNat (0, [])
theorem pickP_in {fs : List (Int × List Int)} {y : Int} (h0 : 0 ≤ y) (h1 : y < (fs.length : Int)) : fs[y.toNat]? = some (pickP fs y) := by
  unfold pickP
  rw [List.getD_eq_getElem?_getD, List.getElem?_eq_getElem (by omega)]
  rfl
theorem pickP_map {fs : List (Int × List Int)} {y : Int} (f : Int × List Int → Int × List Int) (h0 : 0 ≤ y) (h1 : y < (fs.length : Int)) : pickP (fs.map f) y = f (pickP fs y) := by
  have a := pickP_in h0 h1
  have b := pickP_in (fs := fs.map f) h0 (by rw [List.length_map]; exact h1)
  rw [List.getElem?_map, a] at b
  exact (Option.some.inj b).symm
def actO (v : List (Int × List Int)) (D : Int × List (Int × List Int)) : Int × List (Int × List Int) :=
  match v[D.1.toNat]? with
  | some r => (r.1, r.2.map (pickP D.2))
  | none => (0, [])
theorem actO_some {v : List (Int × List Int)} {D : Int × List (Int × List Int)} {r : Int × List Int} (h : v[D.1.toNat]? = some r) : actO v D = (r.1, r.2.map (pickP D.2)) := by
  unfold actO
  rw [h]
def actI (w : List (Int × List Int)) (D : Int × List (Int × List Int)) : Int × List (Int × List Int) := (D.1, D.2.map (stepW w))
def mapD (f : Int → Int) (D : Int × List (Int × List Int)) : Int × List (Int × List Int) := (D.1, D.2.map fun p => (p.1, p.2.map f))
theorem deep_at {us vs ws : List Int} {x : Int} {v : List (Int × List Int)} {D : Int × List (Int × List Int)} (hv : WayOk us vs v) (h : DeepOk us ws x D) : ∃ r, v[D.1.toNat]? = some r ∧ FillOk ((D.2.length : Nat) : Int) vs r := by
  obtain ⟨r, g, f⟩ := way_at hv h.1
  refine ⟨r, g, ?_⟩
  rw [show ((D.1, D.2.map Prod.fst) : Int × List Int).2.length = D.2.length from List.length_map ..] at f
  exact f
theorem actO_ok {us vs ws : List Int} {x : Int} {v : List (Int × List Int)} {D : Int × List (Int × List Int)} (hv : WayOk us vs v) (h : DeepOk us ws x D) : DeepOk vs ws x (actO v D) := by
  obtain ⟨r, g, f⟩ := deep_at hv h
  rw [actO_some g]
  refine ⟨⟨f.1, f.2.1, ?_, fun y hy => ?_⟩, fun p hp => ?_⟩
  · show vs[r.1.toNat]? = some ((((r.2.map (pickP D.2)).map Prod.fst).length : Nat) : Int)
    rw [List.length_map, List.length_map]
    exact f.2.2.1
  · obtain ⟨p, hp, rfl⟩ := List.mem_map.mp hy
    obtain ⟨z, hz, rfl⟩ := List.mem_map.mp hp
    have hb := f.2.2.2 z hz
    have := h.2 _ (List.mem_of_getElem? (pickP_in hb.1 hb.2))
    exact ⟨this.1, this.2.1⟩
  · obtain ⟨z, hz, rfl⟩ := List.mem_map.mp hp
    have hb := f.2.2.2 z hz
    exact h.2 _ (List.mem_of_getElem? (pickP_in hb.1 hb.2))
theorem actI_ok {us ws xs : List Int} {x : Int} {w : List (Int × List Int)} {D : Int × List (Int × List Int)} (hw : WayOk ws xs w) (h : DeepOk us ws x D) : DeepOk us xs x (actI w D) := by
  have st : ∀ p ∈ D.2, FillOk x xs (stepW w p) := fun p hp => step_ok hw (h.2 p hp)
  refine ⟨⟨h.1.1, h.1.2.1, ?_, fun y hy => ?_⟩, fun p hp => ?_⟩
  · have := h.1.2.2.1
    show us[D.1.toNat]? = some ((((D.2.map (stepW w)).map Prod.fst).length : Nat) : Int)
    rw [List.length_map, List.length_map]
    rw [show ((D.1, D.2.map Prod.fst) : Int × List Int).2.length = D.2.length from List.length_map ..] at this
    exact this
  · obtain ⟨p, hp, rfl⟩ := List.mem_map.mp hy
    obtain ⟨z, hz, rfl⟩ := List.mem_map.mp hp
    exact ⟨(st z hz).1, (st z hz).2.1⟩
  · obtain ⟨z, hz, rfl⟩ := List.mem_map.mp hp
    exact st z hz
theorem act_comm {us vs ws : List Int} {x : Int} {v w : List (Int × List Int)} {D : Int × List (Int × List Int)} (hv : WayOk us vs v) (h : DeepOk us ws x D) : actI w (actO v D) = actO v (actI w D) := by
  obtain ⟨r, g, f⟩ := deep_at hv h
  rw [actO_some g, actO_some (D := actI w D) g]
  refine Prod.ext rfl ?_
  show (r.2.map (pickP D.2)).map (stepW w) = r.2.map (pickP (D.2.map (stepW w)))
  rw [List.map_map]
  exact List.map_congr_left fun y hy => (pickP_map _ (f.2.2.2 y hy).1 (f.2.2.2 y hy).2).symm
/-! #### things exchanged -/
theorem pack_map (us ws : List Int) (f : Int → Int) (D : Int × List (Int × List Int)) : packI us ws (mapD f D) = ((packI us ws D).1, (packI us ws D).2.map f) := by
  refine Prod.ext ?_ ?_
  · show fnum (ws.length : Int) us (D.1, (D.2.map fun p => (p.1, p.2.map f)).map Prod.fst) = fnum (ws.length : Int) us (D.1, D.2.map Prod.fst)
    rw [List.map_map]
    rfl
  · show (D.2.map fun (p : Int × List Int) => (p.1, p.2.map f)).flatMap (fun p => p.2) = (D.2.flatMap fun p => p.2).map f
    rw [List.flatMap_map, List.map_flatMap]
theorem unpack_map (us ws : List Int) (f : Int → Int) (k : Int) (xs : List Int) : unpackI us ws (k, xs.map f) = mapD f (unpackI us ws (k, xs)) := by
  unfold unpackI
  show (match (fills ws.length us us.length)[k.toNat]? with | some q => (q.1, splitI ws q.2 (xs.map f)) | none => (0, [])) = mapD f (match (fills ws.length us us.length)[k.toNat]? with | some q => (q.1, splitI ws q.2 xs) | none => (0, []))
  cases (fills ws.length us us.length)[k.toNat]? with
  | none => rfl
  | some q =>
    show (q.1, splitI ws q.2 (xs.map f)) = mapD f (q.1, splitI ws q.2 xs)
    rw [splitI_map]
    rfl
theorem actO_map (v : List (Int × List Int)) (f : Int → Int) (D : Int × List (Int × List Int)) : actO v (mapD f D) = mapD f (actO v D) := by
  unfold actO
  rw [show (mapD f D).1 = D.1 from rfl]
  cases v[D.1.toNat]? with
  | none => rfl
  | some r =>
    show (r.1, r.2.map (pickP (D.2.map fun (p : Int × List Int) => (p.1, p.2.map f)))) = (r.1, (r.2.map (pickP D.2)).map fun (p : Int × List Int) => (p.1, p.2.map f))
    rw [List.map_map]
    refine Prod.ext rfl (List.map_congr_left fun y _ => ?_)
    show pickP (D.2.map fun p => (p.1, p.2.map f)) y = ((pickP D.2 y).1, (pickP D.2 y).2.map f)
    unfold pickP
    rw [List.getD_eq_getElem?_getD, List.getD_eq_getElem?_getD, List.getElem?_map]
    cases D.2[y.toNat]? <;> rfl
theorem step_map {ws xs : List Int} {x : Int} {w : List (Int × List Int)} {p : Int × List Int} (f : Int → Int) (hw : WayOk ws xs w) (hp : FillOk x ws p) : stepW w (p.1, p.2.map f) = ((stepW w p).1, (stepW w p).2.map f) := by
  obtain ⟨q, g, fq⟩ := way_at hw hp
  rw [step_some g, step_some (p := (p.1, p.2.map f)) g]
  refine Prod.ext rfl ?_
  show q.2.map (pick (p.2.map f)) = (q.2.map (pick p.2)).map f
  rw [List.map_map]
  exact List.map_congr_left fun y hy => pick_map (fq.2.2.2 y hy).1 (fq.2.2.2 y hy).2
theorem actI_map {us ws xs : List Int} {x : Int} {w : List (Int × List Int)} {D : Int × List (Int × List Int)} (f : Int → Int) (hw : WayOk ws xs w) (h : DeepOk us ws x D) : actI w (mapD f D) = mapD f (actI w D) := by
  refine Prod.ext rfl ?_
  show (D.2.map fun (p : Int × List Int) => (p.1, p.2.map f)).map (stepW w) = (D.2.map (stepW w)).map fun (p : Int × List Int) => (p.1, p.2.map f)
  rw [List.map_map, List.map_map]
  exact List.map_congr_left fun p hp => step_map f hw (h.2 p hp)
/-! ### the way between crates put together -/
def putW (us ws vs xs : List Int) (v w : List (Int × List Int)) : List (Int × List Int) := (idleW (putC us ws)).map fun p => packI vs xs (actI w (actO v (unpackI us ws p)))
theorem idle_at {ws : List Int} {i : Nat} {x : Int} (h : ws[i]? = some x) : (idleW ws)[i]? = some ((i : Int), iota x) := by
  have hi : i < ws.length := (List.getElem?_eq_some_iff.mp h).1
  unfold idleW
  rw [List.getElem?_map, List.getElem?_range hi, ← plainF_get h]
  rfl
theorem putC_nn {us ws : List Int} (hw : Small ws) : ∀ x ∈ putC us ws, 0 ≤ x := fun x hx => by
  unfold putC at hx
  obtain ⟨p, _, rfl⟩ := List.mem_map.mp hx
  exact rowW_nn (fun x hx => (hw x hx).1) _
theorem put_ok {us ws vs xs : List Int} {v w : List (Int × List Int)} (hu : Small us) (hw : Small ws) (hvs : Small vs) (hv : WayOk us vs v) (hi : WayOk ws xs w) : WayOk (putC us ws) (putC vs xs) (putW us ws vs xs v w) := by
  have id := idle_ok (putC_nn (us := us) hw)
  refine ⟨by unfold putW; rw [List.length_map, idle_len], fun i p x h1 h2 => ?_⟩
  have g := idle_at h2
  have fo := id.2 i _ x g h2
  unfold putW at h1
  rw [List.getElem?_map, g] at h1
  obtain ⟨q, _, _, _, _, dk, _⟩ := unpack_ok hu hw fo
  rw [← Option.some.inj h1]
  exact pack_ok hvs (actI_ok hi (actO_ok hv dk))
theorem step_put {us ws vs xs : List Int} {v w : List (Int × List Int)} {x : Int} {p : Int × List Int} (hu : Small us) (hw : Small ws) (hv : WayOk us vs v) (hi : WayOk ws xs w) (hp : FillOk x (putC us ws) p) : stepW (putW us ws vs xs v w) p = packI vs xs (actI w (actO v (unpackI us ws p))) := by
  have g := idle_at hp.2.2.1
  rw [show ((p.1.toNat : Nat) : Int) = p.1 by have := hp.1; omega] at g
  have fo := (idle_ok (putC_nn (us := us) hw)).2 _ _ _ g hp.2.2.1
  obtain ⟨q, _, _, _, _, dk, _⟩ := unpack_ok hu hw fo
  have gp : (putW us ws vs xs v w)[p.1.toNat]? = some (packI vs xs (actI w (actO v (unpackI us ws (p.1, iota ((p.2.length : Nat) : Int)))))) := by
    unfold putW
    rw [List.getElem?_map, g]
    rfl
  rw [step_some gp]
  have ep : p = (p.1, (iota ((p.2.length : Nat) : Int)).map (pick p.2)) := by
    refine Prod.ext rfl ?_
    show p.2 = _
    unfold iota
    rw [List.map_map, Int.toNat_natCast]
    exact (range_pick p.2).symm
  conv => rhs; rw [ep, unpack_map, actO_map, actI_map _ hi (actO_ok hv dk), pack_map]
/-! #### one after another, idle -/
theorem actO_then {us vs zs ws : List Int} {x : Int} {v z : List (Int × List Int)} {D : Int × List (Int × List Int)} (hv : WayOk us vs v) (hz : WayOk vs zs z) (h : DeepOk us ws x D) : actO z (actO v D) = actO (thenW v z) D := by
  obtain ⟨r, g, f⟩ := deep_at hv h
  have h2 := actO_ok hv h
  obtain ⟨q, g2, f2⟩ := deep_at hz h2
  rw [actO_some g] at g2 f2 ⊢
  rw [actO_some (D := (r.1, r.2.map (pickP D.2))) g2]
  have g3 : (thenW v z)[D.1.toNat]? = some (q.1, q.2.map (pick r.2)) := by
    rw [then_get g, step_some (p := r) g2]
  rw [actO_some g3]
  refine Prod.ext rfl ?_
  show q.2.map (pickP (r.2.map (pickP D.2))) = (q.2.map (pick r.2)).map (pickP D.2)
  rw [List.map_map]
  refine List.map_congr_left fun y hy => ?_
  have hb := f2.2.2.2 y hy
  rw [show ((r.1, r.2.map (pickP D.2)) : Int × List (Int × List Int)).2.length = r.2.length from List.length_map ..] at hb
  have a := pick_in hb.1 hb.2
  have b := pickP_in (fs := r.2.map (pickP D.2)) hb.1 (by rw [List.length_map]; exact hb.2)
  rw [List.getElem?_map, a] at b
  exact (Option.some.inj b).symm
theorem actI_then {us ws xs ys : List Int} {x : Int} {w z : List (Int × List Int)} {D : Int × List (Int × List Int)} (hw : WayOk ws xs w) (hz : WayOk xs ys z) (h : DeepOk us ws x D) : actI z (actI w D) = actI (thenW w z) D := by
  refine Prod.ext rfl ?_
  show (D.2.map (stepW w)).map (stepW z) = D.2.map (stepW (thenW w z))
  rw [List.map_map]
  exact List.map_congr_left fun p hp => step_step hw hz (h.2 p hp)
theorem put_then {us ws vs xs zs ys : List Int} {v w v' w' : List (Int × List Int)} (hu : Small us) (hw : Small ws) (hvs : Small vs) (hxs : Small xs) (hv : WayOk us vs v) (hi : WayOk ws xs w) (hv' : WayOk vs zs v') (hi' : WayOk xs ys w') : thenW (putW us ws vs xs v w) (putW vs xs zs ys v' w') = putW us ws zs ys (thenW v v') (thenW w w') := by
  unfold thenW
  conv => lhs; arg 2; unfold putW
  conv => rhs; unfold putW
  rw [List.map_map]
  refine List.map_congr_left fun p hp => ?_
  obtain ⟨i, hi2, rfl⟩ := List.getElem_of_mem hp
  have hi3 : i < (putC us ws).length := by rw [← idle_len]; exact hi2
  have fo := (idle_ok (putC_nn (us := us) hw)).2 i _ _ (List.getElem?_eq_getElem hi2) (List.getElem?_eq_getElem hi3)
  generalize (idleW (putC us ws))[i] = p at fo
  obtain ⟨q, _, _, _, _, dk, _⟩ := unpack_ok hu hw fo
  have d1 := actO_ok hv dk
  have d2 := actI_ok hi d1
  show stepW (putW vs xs zs ys v' w') (packI vs xs (actI w (actO v (unpackI us ws p)))) = packI zs ys (actI (thenW w w') (actO (thenW v v') (unpackI us ws p)))
  rw [step_put hvs hxs hv' hi' (pack_ok hvs d2), unpack_pack hvs d2, ← act_comm hv' d1, ← actO_then hv hv' dk, ← actI_then hi hi' (actO_ok hv' d1)]
theorem iota_pickP (fs : List (Int × List Int)) : (iota (fs.length : Int)).map (pickP fs) = fs := by
  unfold iota
  rw [List.map_map, Int.toNat_natCast]
  refine List.ext_getElem? fun j => ?_
  rw [List.getElem?_map]
  by_cases hj : j < fs.length
  · rw [List.getElem?_range hj, List.getElem?_eq_getElem hj]
    simp [pickP, hj]
  · rw [List.getElem?_eq_none (by rw [List.length_range]; omega), List.getElem?_eq_none (by omega)]
    rfl
theorem step_idle {ws : List Int} {x : Int} {p : Int × List Int} (hp : FillOk x ws p) : stepW (idleW ws) p = p := by
  have g := idle_at hp.2.2.1
  rw [show ((p.1.toNat : Nat) : Int) = p.1 by have := hp.1; omega] at g
  rw [step_some g]
  refine Prod.ext rfl ?_
  show (iota ((p.2.length : Nat) : Int)).map (pick p.2) = p.2
  unfold iota
  rw [List.map_map, Int.toNat_natCast]
  exact range_pick p.2
theorem put_idle {us ws : List Int} (hu : Small us) (hw : Small ws) : putW us ws us ws (idleW us) (idleW ws) = idleW (putC us ws) := by
  unfold putW
  conv => rhs; rw [← List.map_id (idleW (putC us ws))]
  refine List.map_congr_left fun p hp => ?_
  obtain ⟨i, hi2, rfl⟩ := List.getElem_of_mem hp
  have hi3 : i < (putC us ws).length := by rw [← idle_len]; exact hi2
  have fo := (idle_ok (putC_nn (us := us) hw)).2 i _ _ (List.getElem?_eq_getElem hi2) (List.getElem?_eq_getElem hi3)
  generalize (idleW (putC us ws))[i] = p at fo
  obtain ⟨q, _, _, _, _, dk, pk⟩ := unpack_ok hu hw fo
  have a1 : actO (idleW us) (unpackI us ws p) = unpackI us ws p := by
    have g := idle_at dk.1.2.2.1
    rw [show (((unpackI us ws p).1, (unpackI us ws p).2.map Prod.fst) : Int × List Int).2.length = (unpackI us ws p).2.length from List.length_map .., show ((((unpackI us ws p).1, (unpackI us ws p).2.map Prod.fst) : Int × List Int).1.toNat : Int) = (unpackI us ws p).1 by have := dk.1.1; exact Int.toNat_of_nonneg this] at g
    rw [actO_some g]
    refine Prod.ext rfl ?_
    exact iota_pickP _
  have a2 : actI (idleW ws) (unpackI us ws p) = unpackI us ws p := by
    refine Prod.ext rfl ?_
    show (unpackI us ws p).2.map (stepW (idleW ws)) = _
    conv => rhs; rw [← List.map_id (unpackI us ws p).2]
    exact List.map_congr_left fun r hr => step_idle (dk.2 r hr)
  rw [a1, a2, pk]
  rfl
theorem Small.le {ws : List Int} (h : Small ws) : ∀ x ∈ ws, 0 ≤ x ∧ x ≤ 60 := fun x hx => ⟨(h x hx).1, by have := (h x hx).2; omega⟩
theorem deepD_eq (D : Int × List (Int × List Int)) : deepD D = .tuple [.int D.1, .tuple (D.2.map dPair)] := rfl
theorem unpackedI {us ws : List Int} {x : Int} {p : Int × List Int} (hu : Small us) (hl : us.length ≤ 60) (hw : Small ws) (hl2 : ws.length ≤ 60) (hp : FillOk x (putC us ws) p) (hpl : p.2.length ≤ 100000) : F_unpacked [cr us, cr ws, dPair p] = .ok (deepD (unpackI us ws p)) := by
  obtain ⟨q, g, f1, f2, hr, _, _⟩ := unpack_ok hu hw hp
  have h := unpacked (us := us) (ws := ws) (k := p.1) (q := q) (ds := p.2.map PyData.int) hu.le (by omega) hw.le (by omega) f1 f2 (by rw [hr, List.length_map]; exact Int.le_refl _) (by rw [List.length_map]; exact hpl)
  rw [splitI_D, List.map_map] at h
  rw [unpackI_some g]
  exact h
theorem flat_le {n : Nat} : ∀ {fs : List (Int × List Int)}, (∀ p ∈ fs, p.2.length ≤ n) → (fs.flatMap fun p => p.2).length ≤ n * fs.length
  | [], _ => Nat.zero_le _
  | a :: fs, h => by
    have := flat_le fun p hp => h p (List.mem_cons_of_mem _ hp)
    have := h a List.mem_cons_self
    rw [List.flatMap_cons, List.length_append, List.length_cons, Nat.mul_succ]
    omega
theorem deep_small {us ws : List Int} {x : Int} {D : Int × List (Int × List Int)} (hu : Small us) (hw : Small ws) (h : DeepOk us ws x D) : D.2.length ≤ 12 ∧ (D.2.flatMap fun p => p.2).length ≤ 144 ∧ ∀ p ∈ D.2, p.2.length ≤ 12 := by
  have h1 : D.2.length ≤ 12 := by
    have := hu _ (List.mem_of_getElem? h.1.2.2.1)
    rw [show ((D.1, D.2.map Prod.fst) : Int × List Int).2.length = D.2.length from List.length_map ..] at this
    omega
  have h2 : ∀ p ∈ D.2, p.2.length ≤ 12 := fun p hp => by
    have := hw _ (List.mem_of_getElem? (h.2 p hp).2.2.1)
    omega
  have := flat_le h2
  exact ⟨h1, by omega, h2⟩
theorem packedI {us ws : List Int} {x : Int} {D : Int × List (Int × List Int)} (hu : Small us) (hl : us.length ≤ 60) (hw : Small ws) (hl2 : ws.length ≤ 60) (h : DeepOk us ws x D) : F_packed [cr us, cr ws, deepD D] = .ok (dPair (packI us ws D)) := by
  obtain ⟨d1, d2, _⟩ := deep_small hu hw h
  have e1 : (D.2.map toD).map fil = D.2.map dPair := by rw [List.map_map]; rfl
  have e2 : (D.2.map toD).map Prod.fst = D.2.map Prod.fst := by rw [List.map_map]; rfl
  have e3 : (D.2.map toD).flatMap (fun p => p.2) = (D.2.flatMap fun p => p.2).map PyData.int := by
    rw [List.flatMap_map, List.map_flatMap]
    rfl
  have k := packed (us := us) (ws := ws) (s := D.1) (fs := D.2.map toD) hu.le (by omega) (by omega) h.1.1 (by have := h.1.2.1; show D.1 ≤ _; exact Int.le_of_lt this) (fun p hp => by
    obtain ⟨r, hr, rfl⟩ := List.mem_map.mp hp
    have h0 := (h.2 r hr).1
    have h1 := (h.2 r hr).2.1
    exact ⟨h0, by show r.1 < _; omega⟩) (by rw [List.length_map]; omega) (by rw [e3, List.length_map]; omega)
  rw [e1, e2, e3] at k
  exact k
theorem pickD_P {fs : List (Int × List Int)} {y : Int} (h0 : 0 ≤ y) (h1 : y < (fs.length : Int)) : pickD (fs.map dPair) y = dPair (pickP fs y) := by
  have a := pickP_in h0 h1
  unfold pickD
  rw [List.getD_eq_getElem?_getD, List.getElem?_map, a]
  rfl
theorem turnedI {us vs ws : List Int} {x : Int} {v : List (Int × List Int)} {D : Int × List (Int × List Int)} (hvs : Small vs) (hv : WayOk us vs v) (h : DeepOk us ws x D) : F_turned [dWay v, deepD D] = .ok (deepD (actO v D)) ∧ F_law_turned [dWay v, deepD D] = .ok (deepD (actO v D)) := by
  obtain ⟨r, g, f⟩ := deep_at hv h
  have hb : Below (((D.2.map dPair).length : Nat) : Int) r.2 := by rw [List.length_map]; exact f.2.2.2
  have hl : r.2.length ≤ 10000 := by
    have := hvs _ (List.mem_of_getElem? f.2.2.1)
    omega
  have k1 := turned_any (ds := D.2.map dPair) h.1.1 g hb hl
  have k2 := law_turned_any (ds := D.2.map dPair) h.1.1 g hb hl
  have e : r.2.map (pickD (D.2.map dPair)) = (r.2.map (pickP D.2)).map dPair := by
    rw [List.map_map]
    exact List.map_congr_left fun y hy => pickD_P (f.2.2.2 y hy).1 (f.2.2.2 y hy).2
  rw [e] at k1 k2
  rw [actO_some g]
  exact ⟨k1, k2⟩
theorem put_wayI {us vs ws xs : List Int} {v w : List (Int × List Int)} (hu : Small us) (hul : us.length ≤ 60) (hvs : Small vs) (hvl : vs.length ≤ 60) (hws : Small ws) (hwl : ws.length ≤ 60) (hxs : Small xs) (hxl : xs.length ≤ 60) (hc : crateD (cr (putC us ws)) = true) (hn : cnt (ws.length : Int) us ≤ 60) (hv : WayOk us vs v) (hw : WayOk ws xs w) : F_put_way [.tuple [cr us, cr vs], .tuple [cr ws, cr xs], dWay v, dWay w] = .ok (dWay (putW us ws vs xs v w)) := by
  have pu := put_cr (us := us) (ws := ws) hu.le (by omega) (by omega)
  rw [if_pos hn, if_pos hc] at pu
  have hpl := putC_len ws hu
  have hp12 : ∀ x ∈ putC us ws, 0 ≤ x ∧ x ≤ 12 := fun x hx => by
    have h := hc
    unfold crateD at h
    simp at h
    have := h.2 x hx
    unfold wellD at this
    simp at this
    omega
  have id := idle_cr (ws := putC us ws) (fun x hx => ⟨(hp12 x hx).1, by have := (hp12 x hx).2; omega⟩) (by omega)
  have it : itemsD (dWay (idleW (putC us ws))) = .ok ((idleW (putC us ws)).map dPair) := rfl
  have hx : ∀ v ∈ xs, v ≤ 10000 := fun v hv => by have := (hxs v hv).2; omega
  simp [F_put_way, pu, id, it]
  refine for_eq (fun i ρ => ∃ j9 j10 j11 j12 j13 : Option (Bool × PyData), ρ = [some (false, .tuple [cr us, cr vs]), some (false, .tuple [cr ws, cr xs]), some (false, dWay v), some (false, dWay w), some (false, cr us), some (false, cr vs), some (false, cr ws), some (false, cr xs), some (true, .list (((putW us ws vs xs v w).take i).map dPair)), j9, j10, j11, j12, j13]) (by simp) ?_ ?_
  · intro i d ρ hd ⟨j9, j10, j11, j12, j13, hρ⟩
    subst hρ
    obtain ⟨p, hp, rfl⟩ := map_get' hd
    have hi : i < (idleW (putC us ws)).length := (List.getElem?_eq_some_iff.mp hp).1
    have hi3 : i < (putC us ws).length := by rw [← idle_len]; exact hi
    have fo := (idle_ok (putC_nn (us := us) hws)).2 i p _ hp (List.getElem?_eq_getElem hi3)
    have hp2 : p.2.length ≤ 12 := by
      have := hp12 _ (List.mem_of_getElem? fo.2.2.1)
      omega
    have u1 := unpackedI hu hul hws hwl fo (by omega)
    obtain ⟨q, _, _, _, _, dk, _⟩ := unpack_ok hu hws fo
    have u2 := (turnedI hvs hv dk).1
    have d1 := actO_ok hv dk
    have u3 := packedI hvs hvl hxs hxl (actI_ok hw d1)
    have hg : (putW us ws vs xs v w)[i]? = some (packI vs xs (actI w (actO v (unpackI us ws p)))) := by
      unfold putW
      rw [List.getElem?_map, hp]
      rfl
    generalize unpackI us ws p = X at u1 u2 u3 d1 hg
    generalize hY : actO v X = Y at u2 u3 d1 hg
    obtain ⟨y1, _, _⟩ := deep_small hvs hws d1
    rw [take_snoc hg]
    have k := lc_mapE (enc := dPair) (out := dPair) (h := stepW w) (xs := Y.2) (bd := bd1 (gN 13) tY (eCall F_turned (aCons (eVar 3) (aCons (eVar 13) aNil))) [some (false, .tuple [cr us, cr vs]), some (false, .tuple [cr ws, cr xs]), some (false, dWay v), some (false, dWay w), some (false, cr us), some (false, cr vs), some (false, cr ws), some (false, cr xs), some (true, .list (((putW us ws vs xs v w).take i).map dPair)), some (false, dPair p), some (false, .int Y.1), some (false, .tuple (Y.2.map dPair)), j12, none]) fun p hp => by
      simp [(turned_way hw (d1.2 p hp) hx).1]
    have e3 : deepD (actI w Y) = .tuple [.int Y.1, .tuple ((Y.2.map (stepW w)).map dPair)] := rfl
    rw [deepD_eq Y] at u2
    rw [e3] at u3
    have hlen : (((putW us ws vs xs v w).take i).map dPair).length < lim := by
      rw [List.length_map, List.length_take, lim_eq]
      have : (putW us ws vs xs v w).length = (idleW (putC us ws)).length := by unfold putW; rw [List.length_map]
      rw [this, idle_len]
      omega
    simp [-List.map_take, -List.map_map, u1, u2]
    try simp [-List.map_map, -List.map_take] at k
    rw [k, cap_le (by simp [lim_eq]; omega)]
    simp [-List.map_take, -List.map_map, u3, q_app hlen]
  · intro ρ' ⟨j9, j10, j11, j12, j13, hρ⟩
    subst hρ
    have : (putW us ws vs xs v w).length = ((idleW (putC us ws)).map dPair).length := by unfold putW; rw [List.length_map, List.length_map]
    rw [← this, List.take_length]
    simp [dWay]
/-! ### a way drawn, or none -/
theorem for_or {g : PyData → Ev → Rs Ev} {b : Ev → Rs Out} (P : Nat → Ev → Prop) (R : PyData → Prop) : ∀ {ds : List PyData} {k : Nat} {ρ : Ev}, P k ρ → (∀ (i : Nat) d ρ, ds[i]? = some d → P (k + i) ρ → (∃ ρ', turn g b d ρ = .ok (.nx ρ') ∧ P (k + i + 1) ρ') ∨ (∃ z, turn g b d ρ = .ok (.ret z) ∧ R z)) → (∃ ρ', forGo g b ds ρ = .ok (.nx ρ') ∧ P (k + ds.length) ρ') ∨ (∃ z, forGo g b ds ρ = .ok (.ret z) ∧ R z)
  | [], k, ρ, h0, hs => .inl ⟨ρ, rfl, h0⟩
  | d :: ds, k, ρ, h0, hs => by
    have tr : ∀ o, turn g b d ρ = .ok o → forGo g b (d :: ds) ρ = match o with | .nx ρ2 => forGo g b ds ρ2 | .cnt ρ2 => forGo g b ds ρ2 | .brk ρ2 => .ok (.nx ρ2) | .ret d => .ok (.ret d) := fun o e1 => by
      unfold turn at e1
      show okE (g d ρ) (fun ρ1 => (b ρ1).bind _) = _
      cases q : g d ρ with
      | bad => rw [q] at e1; cases e1
      | err c => rw [q] at e1; cases e1
      | ok ρ0 =>
        rw [q] at e1
        show (b ρ0).bind _ = _
        rw [show b ρ0 = .ok o from e1]
        cases o <;> rfl
    rcases hs 0 d ρ rfl h0 with ⟨ρ1, e1, p1⟩ | ⟨z, e1, r⟩
    · rw [tr _ e1]
      have := for_or P R (ds := ds) (k := k + 1) (ρ := ρ1) p1 fun i d' ρ' h p => by
        have := hs (i + 1) d' ρ' h (by rw [show k + (i + 1) = k + 1 + i by omega]; exact p)
        rw [show k + (i + 1) + 1 = k + 1 + i + 1 by omega] at this
        exact this
      rw [show k + (d :: ds).length = k + 1 + ds.length by rw [List.length_cons]; omega]
      exact this
    · rw [tr _ e1]
      exact .inr ⟨z, rfl, r⟩
theorem flat_filter (t : Int → Bool) : ∀ l : List Int, (l.flatMap fun x : Int => if t x then [PyData.int x] else []) = (l.filter t).map PyData.int
  | [] => rfl
  | a :: l => by
    rw [List.flatMap_cons, flat_filter t l, List.filter_cons]
    by_cases ha : t a = true
    · rw [if_pos ha, if_pos ha]; rfl
    · rw [if_neg ha, if_neg ha]; rfl
theorem eq_nil (gs : List Int) : eqD (.list (gs.map PyData.int)) (.list []) = .ok (.bool gs.isEmpty) := by
  rw [q_eq ((gd_lst (n := 0) fun d hd => by
    obtain ⟨i, _, rfl⟩ := List.mem_map.mp hd
    exact gd_int i).1.shaped (by decide)) ((gd_lst (n := 0) (ds := []) fun d hd => by cases hd).1.shaped (by decide))]
  cases gs with
  | nil => simp [PyData.eqv, PyData.eqvAll]
  | cons a gs => simp [PyData.eqv, PyData.eqvAll]
theorem law_way {c : Int} {us vs : List Int} (c0 : 0 ≤ c) (hu : Small us) (hul : us.length ≤ 60) (hvs : Small vs) (hvl : vs.length ≤ 60) : F_law_way [.int c, cr us, cr vs] = .ok .none ∨ ∃ wy, F_law_way [.int c, cr us, cr vs] = .ok (dWay wy) ∧ WayOk us vs wy := by
  have key := for_or (g := gT 2 (gsC (gN 4) (gsC (gN 5) gsN))) (b := (sSeq (sSet 6 (e2 divD (eVar 0) (e2 addD (eC (.int 3)) (e2 mulD (eC (.int 11)) (eVar 4)))))
      (sSeq (sSet 7 (eL (lLc [8] (iRg (rg1D (eCB lenD (aCons (eVar 2) aNil)))) (gN 8) (tOr' (tB' (e2 gtD (eVar 5) (eC (.int 0)))) (tB' (e2 eqD (e2 ixD (eVar 2) (eVar 8)) (eC (.int 0))))) (eVar 8))))
      (sSeq (sIf (tB' (e2 eqD (eVar 7) (eL aNil)))
      (sRet (eC .none))
      sNil)
      (sSeq (sSet 8 (e2 ixD (eVar 7) (e2 modD (eVar 6) (eCB lenD (aCons (eVar 7) aNil)))))
      (sMut 3 appM (aCons (eTup (aCons (eVar 8) (aCons (eCB tupleD (aCons (eL (lLc [9] (iRg (rg1D (e2 ixD (eVar 2) (eVar 8)))) (gN 9) tY (e2 modD (e2 divD (eVar 6) (e2 addD (eC (.int 5)) (e2 mulD (eC (.int 7)) (eVar 9)))) (eVar 5)))) aNil)) aNil))) aNil))))))) (ds := enumG 0 (us.map PyData.int)) (k := 0) (ρ := [some (false, .int c), some (false, cr us), some (false, cr vs), some (true, .list []), none, none, none, none, none, none])
    (fun i ρ => ∃ (wy : List (Int × List Int)) (j4 j5 j6 j7 j8 j9 : Option (Bool × PyData)), WayOk (us.take i) vs wy ∧ ρ = [some (false, .int c), some (false, cr us), some (false, cr vs), some (true, .list (wy.map dPair)), j4, j5, j6, j7, j8, j9]) (fun z => z = .none) ⟨[], none, none, none, none, none, none, ⟨rfl, fun i p x h _ => by simp at h⟩, rfl⟩ (fun i d ρ hd ⟨wy, j4, j5, j6, j7, j8, j9, hw, hρ⟩ => by
      subst hρ
      rw [Nat.zero_add] at hw ⊢
      obtain ⟨m, hm, rfl⟩ := enum_get hd
      have hi : i < us.length := (List.getElem?_eq_some_iff.mp hm).1
      have hmb := hu m (List.mem_of_getElem? hm)
      have a1 : mulD (.int 11) (.int (i : Int)) = .ok (.int (11 * (i : Int))) := q_mul (wide_small (by decide) (by decide)) (wide_small (by omega) (by omega))
      have a2 := q_div (i := c) (j := 3 + 11 * (i : Int)) (by omega) (wide_small (by omega) (by omega))
      have n0 : 0 ≤ c / (3 + 11 * (i : Int)) := Int.ediv_nonneg c0 (by omega)
      generalize c / (3 + 11 * (i : Int)) = near at a2 n0
      have lf := lc_flatE (enc := PyData.int) (h := fun x : Int => if (decide (0 < m) || decide (pick vs x = 0)) then [PyData.int x] else []) (xs := iota (vs.length : Int)) (bd := bd1 (gN 8) (tOr' (tB' (e2 gtD (eVar 5) (eC (.int 0)))) (tB' (e2 eqD (e2 ixD (eVar 2) (eVar 8)) (eC (.int 0))))) (eVar 8) [some (false, .int c), some (false, cr us), some (false, cr vs), some (true, .list (wy.map dPair)), some (false, .int (i : Int)), some (false, .int m), some (false, .int near), j7, none, j9]) fun x hx => by
        obtain ⟨x0, x1⟩ := iota_below _ x hx
        have hix := ix_cr (ws := vs) x0 x1
        by_cases h1 : 0 < m
        · simp [h1]
        · by_cases h2 : pick vs x = 0
          · simp [h1, hix, h2]
          · simp [h1, hix, h2]
      rw [flat_filter] at lf
      generalize hgs : (iota (vs.length : Int)).filter (fun x => decide (0 < m) || decide (pick vs x = 0)) = gs at lf
      have gl : gs.length ≤ vs.length := by
        rw [← hgs]
        refine Nat.le_trans (List.length_filter_le ..) ?_
        rw [iota_len]
        omega
      have r0 : rgOk 0 (vs.length : Int) = true := rgOk0 (by omega) (by omega)
      have cl : cap (Rs.ok (gs.map PyData.int)) = Rs.ok (gs.map PyData.int) := cap_le (by rw [List.length_map, lim_eq]; omega)
      have en := eq_nil gs
      try simp at lf
      cases hgc : gs with
      | nil =>
        right
        rw [hgc] at lf en cl
        refine ⟨.none, ?_, rfl⟩
        simp [a1, a2, r0, rgD0]
        simp at lf cl en
        rw [lf, cl]
        simp [en]
      | cons b bs =>
        left
        have gp : 0 < gs.length := by rw [hgc]; exact Nat.succ_pos _
        have m1 := q_mod (i := near) (j := (gs.length : Int)) (by omega)
        have t0 : 0 ≤ near % (gs.length : Int) := Int.emod_nonneg _ (by omega)
        have t1 : near % (gs.length : Int) < (gs.length : Int) := Int.emod_lt_of_pos _ (by omega)
        generalize near % (gs.length : Int) = t at m1 t0 t1
        have hg : gs[t.toNat]? = some gs[t.toNat] := List.getElem?_eq_getElem (by omega)
        generalize gs[t.toNat] = y at hg
        have ix1 : ixD (.list (gs.map PyData.int)) (.int t) = .ok (.int y) := q_ixL (at_int t0 (by rw [List.getElem?_map, hg]; rfl))
        have ym := List.mem_of_getElem? hg
        rw [← hgs] at ym
        obtain ⟨ym1, ym2⟩ := List.mem_filter.mp ym
        obtain ⟨y0, y1⟩ := iota_below _ y ym1
        have ix2 := ix_cr (ws := vs) y0 y1
        have yv := hvs _ (List.mem_of_getElem? (pick_in y0 y1))
        have ym3 : 0 < m ∨ pick vs y = 0 := by
          simp at ym2
          exact ym2
        have r1 : rgOk 0 (pick vs y) = true := rgOk0 yv.1 (by omega)
        have lk := lc_mapE (enc := PyData.int) (out := PyData.int) (h := fun k : Int => near / (5 + 7 * k) % m) (xs := iota (pick vs y)) (bd := bd1 (gN 9) tY (e2 modD (e2 divD (eVar 6) (e2 addD (eC (.int 5)) (e2 mulD (eC (.int 7)) (eVar 9)))) (eVar 5)) [some (false, .int c), some (false, cr us), some (false, cr vs), some (true, .list (wy.map dPair)), some (false, .int (i : Int)), some (false, .int m), some (false, .int near), some (false, .list (gs.map PyData.int)), some (false, .int y), none]) fun k hk => by
          obtain ⟨k0, k1⟩ := iota_below _ k hk
          have mp : 0 < m := by omega
          have b1 : mulD (.int 7) (.int k) = .ok (.int (7 * k)) := q_mul (wide_small (by decide) (by decide)) (wide_small (by omega) (by omega))
          have b2 := q_div (i := near) (j := 5 + 7 * k) (by omega) (wide_small (by omega) (by omega))
          have b3 := q_mod (i := near / (5 + 7 * k)) (j := m) mp
          simp [b1, b2, b3]
        have ne : gs.isEmpty = false := by rw [hgc]; rfl
        rw [ne] at en
        have wl : wy.length ≤ 60 := by
          rw [hw.1, List.length_take]
          omega
        have cl2 : cap (Rs.ok (((iota (pick vs y)).map fun k => near / (5 + 7 * k) % m).map PyData.int)) = Rs.ok (((iota (pick vs y)).map fun k => near / (5 + 7 * k) % m).map PyData.int) := cap_le (by rw [List.length_map, List.length_map, iota_len, lim_eq]; omega)
        have ap : appM (wy.map dPair) [.tuple [.int y, .tuple (((iota (pick vs y)).map fun k => near / (5 + 7 * k) % m).map PyData.int)]] = .ok ((wy ++ [(y, (iota (pick vs y)).map fun k => near / (5 + 7 * k) % m)]).map dPair) := by
          rw [q_app (by rw [List.length_map, lim_eq]; omega), List.map_append]
          rfl
        have fo : FillOk m vs (y, (iota (pick vs y)).map fun k => near / (5 + 7 * k) % m) := ⟨y0, y1, by
          show vs[y.toNat]? = _
          rw [pick_in y0 y1]
          show some (pick vs y) = some ((((iota (pick vs y)).map fun k => near / (5 + 7 * k) % m).length : Nat) : Int)
          rw [List.length_map, iota_len, Int.toNat_of_nonneg yv.1], fun z hz => by
          obtain ⟨k, hk, rfl⟩ := List.mem_map.mp hz
          obtain ⟨k0, k1⟩ := iota_below _ k hk
          have mp : 0 < m := by omega
          exact ⟨Int.emod_nonneg _ (by omega), Int.emod_lt_of_pos _ mp⟩⟩
        generalize (iota (pick vs y)).map (fun k => near / (5 + 7 * k) % m) = row at lk cl2 ap fo
        refine ⟨[some (false, .int c), some (false, cr us), some (false, cr vs), some (true, .list ((wy ++ [(y, row)]).map dPair)), some (false, .int (i : Int)), some (false, .int m), some (false, .int near), some (false, .list (gs.map PyData.int)), some (false, .int y), j9], ?_, wy ++ [(y, row)], _, _, _, _, _, _, ?_, rfl⟩
        · try simp at lk
          simp [-List.map_append, a1, a2, r0, rgD0]
          rw [lf, cl]
          simp [-List.map_append, en, m1, ix1, ix2, r1, rgD0]
          rw [lk, cl2]
          simp [-List.map_append, ap]
        · rw [take_snoc hm]
          exact wayOk_app hw (one_way fo))
  rw [Nat.zero_add] at key
  rcases key with ⟨ρ', e, wy, j4, j5, j6, j7, j8, j9, hw, hρ⟩ | ⟨z, e, rfl⟩
  · right
    have hlen : (enumG 0 (us.map PyData.int)).length = us.length := by rw [enumG_len, List.length_map]
    rw [hlen, List.take_length] at hw
    refine ⟨wy, ?_, hw⟩
    subst hρ
    simp [F_law_way]
    rw [e]
    simp [dWay]
  · left
    simp [F_law_way]
    rw [e]
    simp
noncomputable def F_keeps_trays : List PyData → Rs PyData := fn 4 (sRet (eCB allD (aCons (eL (lLc [1, 2, 3] (iEnumD (eVar 0)) (gT 2 (gsC (gN 1) (gsC (gT 2 (gsC (gN 2) (gsC (gN 3) gsN))) gsN))) tY (e2 eqD (eVar 2) (eVar 1)))) aNil)))
noncomputable def F_keeps_wells : List PyData → Rs PyData := fn 6 (sRet (eCB allD (aCons (eL (lLc [2, 3, 4, 5] (iZipD (aCons (eVar 1) (aCons (eCall F_idle (aCons (eVar 0) aNil)) aNil))) (gT 2 (gsC (gT 2 (gsC (gN 2) (gsC (gN 3) gsN))) (gsC (gT 2 (gsC (gN 4) (gsC (gN 5) gsN))) gsN))) tY (e2 eqD (eVar 3) (eVar 5)))) aNil)))
noncomputable def F_parts : List PyData → Rs PyData := fn 10 (sSeq (sSet 3 (eCB tupleD (aCons (eL (lLc [6, 7] (iItems (eVar 2)) (gT 2 (gsC (gN 6) (gsC (gN 7) gsN))) tY (e2 ixD (eVar 1) (eVar 6)))) aNil)))
      (sSeq (sSet 4 (eCB tupleD (aCons (eL (lLc [8, 6, 7] (iEnumD (eVar 2)) (gT 2 (gsC (gN 8) (gsC (gT 2 (gsC (gN 6) (gsC (gN 7) gsN))) gsN))) tY (eTup (aCons (eVar 8) (aCons (eVar 7) aNil))))) aNil)))
      (sSeq (sSet 5 (eCB tupleD (aCons (eL (lLc [6, 9, 8, 7] (iZipD (aCons (eVar 2) (aCons (eCall F_idle (aCons (eVar 3) aNil)) aNil))) (gT 2 (gsC (gT 2 (gsC (gN 6) (gsC (gN 9) gsN))) (gsC (gT 2 (gsC (gN 8) (gsC (gN 7) gsN))) gsN))) tY (eTup (aCons (eVar 6) (aCons (eVar 7) aNil))))) aNil)))
      (sRet (eTup (aCons (eVar 3) (aCons (eVar 4) (aCons (eVar 5) aNil))))))))
noncomputable def F_tray_rows : List PyData → Rs PyData := fn 2 (sSeq (sDrop (eCall F_put (aCons (eVar 0) (aCons (eVar 1) aNil))))
      (sRet (eCall F_all_fillings (aCons (eVar 0) (aCons (eCB lenD (aCons (eVar 1) aNil)) aNil)))))
noncomputable def F_law_rows : List PyData → Rs PyData := fn 10 (sSeq (sSetO 2 aNil)
      (sSeq (sFor (iEnumD (eVar 0)) (gT 2 (gsC (gN 3) (gsC (gN 4) gsN)))
      (sSeq (sSet 5 (eL (aCons (eTup aNil) aNil)))
      (sSeq (sFor (iRg (rg1D (eVar 4))) (gN 6)
      (sSeq (sSetO 7 aNil)
      (sSeq (sFor (iItems (eVar 5)) (gN 8)
      (sMut 7 extM (aCons (eL (lLc [9] (iRg (rg1D (eCB lenD (aCons (eVar 1) aNil)))) (gN 9) tY (e2 addD (eVar 8) (eTup (aCons (eVar 9) aNil))))) aNil)))
      (sFrz 7 (sSet 5 (eVar 7))))))
      (sMut 2 extM (aCons (eL (lLc [8] (iItems (eVar 5)) (gN 8) tY (eTup (aCons (eVar 3) (aCons (eVar 8) aNil))))) aNil)))))
      (sFrz 2 (sRet (eVar 2)))))
@[simp] theorem z_mt (ρ : Ev) (g : List PyData → List PyData → Rs PyData) (fo : Ev → Rs PyData) (fs : Ev → Rs (List PyData)) : eMt g fo fs ρ = (fo ρ).bind fun | .list ds => (fs ρ).bind fun as => g ds as | _ => .bad := rfl
@[simp] theorem q_rev (ds : List PyData) : revM ds [] = .ok ds.reverse := rfl
theorem nx_seq {a b : Ev → Rs Out} {ρ ρ' : Ev} {R : Rs Out} (h : a ρ = .ok (.nx ρ')) (k : b ρ' = R) : sSeq a b ρ = R := by
  simp [h, k]
theorem rt_seq {a b : Ev → Rs Out} {ρ : Ev} {d : PyData} (h : a ρ = .ok (.ret d)) : sSeq a b ρ = .ok (.ret d) := by
  simp [h]
/-- a def that returns -/
theorem fn_ret {n : Nat} {b : Ev → Rs Out} {ds : List PyData} {ρ : Ev} {d : PyData} (hρ : start0 n ds = ρ) (h : b ρ = .ok (.ret d)) : fn n b ds = .ok d := by
  subst hρ
  show (b _).bind _ = _
  rw [h]
  rfl
/-! ### the parts of a way -/
theorem gd_pair {n : Nat} (p : Int × List Int) : Gd (n + 2) (dPair p) := gd_two (gd_int _) (gd_ints p.2)
theorem gd_wayN {n : Nat} (w : List (Int × List Int)) : Gd (n + 3) (dWay w) := gd_tup fun d hd => by
  obtain ⟨p, _, rfl⟩ := List.mem_map.mp hd
  exact gd_pair p
def midC (us : List Int) (wy : List (Int × List Int)) : List Int := wy.map fun p => pick us p.1
def firstG : Nat → List (Int × List Int) → List (Int × List Int)
  | _, [] => []
  | k, p :: wy => ((k : Int), p.2) :: firstG (k + 1) wy
def firstW (wy : List (Int × List Int)) : List (Int × List Int) := firstG 0 wy
def secondW (us : List Int) (wy : List (Int × List Int)) : List (Int × List Int) := wy.map fun p => (p.1, iota (pick us p.1))
theorem firstG_get : ∀ {wy : List (Int × List Int)} {k i : Nat}, (firstG k wy)[i]? = (wy[i]?).map fun p => (((k + i : Nat) : Int), p.2)
  | [], k, i => by simp [firstG]
  | p :: wy, k, 0 => by simp [firstG]
  | p :: wy, k, i + 1 => by
    simp only [firstG, List.getElem?_cons_succ]
    rw [firstG_get, show k + 1 + i = k + (i + 1) by omega]
theorem firstW_get (wy : List (Int × List Int)) (i : Nat) : (firstW wy)[i]? = (wy[i]?).map fun p => ((i : Int), p.2) := by
  unfold firstW
  rw [firstG_get, Nat.zero_add]
theorem lc_enum {bd : PyData → Rs (List PyData)} : ∀ {wy : List (Int × List Int)} {k : Nat}, (∀ (i : Nat) (p : Int × List Int), p ∈ wy → bd (.tuple [.int (i : Int), dPair p]) = .ok [dPair ((i : Int), p.2)]) → lcAll bd (enumG k (wy.map dPair)) = .ok ((firstG k wy).map dPair)
  | [], k, h => rfl
  | p :: wy, k, h => by
    show (bd _).bind _ = _
    rw [h k p List.mem_cons_self, bind_ok', lc_enum (wy := wy) (k := k + 1) fun i q hq => h i q (List.mem_cons_of_mem _ hq)]
    rfl
theorem fst_in {ws us : List Int} {wy : List (Int × List Int)} (ok : WayOk ws us wy) {p : Int × List Int} (hp : p ∈ wy) : 0 ≤ p.1 ∧ p.1 < (us.length : Int) ∧ ((p.2.length : Nat) : Int) = pick us p.1 := by
  obtain ⟨i, hi, rfl⟩ := List.getElem_of_mem hp
  have fo := ok.2 i _ _ (List.getElem?_eq_getElem hi) (List.getElem?_eq_getElem (by rw [← ok.1]; exact hi))
  refine ⟨fo.1, fo.2.1, ?_⟩
  have := pick_in fo.1 fo.2.1
  rw [fo.2.2.1] at this
  exact Option.some.inj this
theorem idle_zip (us : List Int) : ∀ (wy : List (Int × List Int)) (k : Nat), (wy.map fun p => pick us p.1) = (midC us wy) := fun _ _ => rfl
theorem parts_ok {ws us : List Int} {wy : List (Int × List Int)} (hu : ∀ x ∈ us, 0 ≤ x ∧ x ≤ 10000) (hl : ws.length ≤ 10000) (ok : WayOk ws us wy) : F_parts [cr ws, cr us, dWay wy] = .ok (.tuple [cr (midC us wy), dWay (firstW wy), dWay (secondW us wy)]) := by
  have hn : wy.length ≤ 10000 := by rw [ok.1]; exact hl
  have it : itemsD (dWay wy) = .ok (wy.map dPair) := rfl
  have hm : ∀ x ∈ midC us wy, 0 ≤ x ∧ x ≤ 10000 := fun x hx => by
    obtain ⟨p, hp, rfl⟩ := List.mem_map.mp hx
    have := fst_in ok hp
    exact hu _ (List.mem_of_getElem? (pick_in this.1 this.2.1))
  have hml : (midC us wy).length = wy.length := by unfold midC; rw [List.length_map]
  have id := idle_cr hm (by omega)
  have k1 := lc_mapE (enc := dPair) (out := PyData.int) (h := fun p => pick us p.1) (xs := wy) (bd := bd1 (gT 2 (gsC (gN 6) (gsC (gN 7) gsN))) tY (e2 ixD (eVar 1) (eVar 6)) [some (false, cr ws), some (false, cr us), some (false, dWay wy), none, none, none, none, none, none, none]) fun p hp => by
    have := fst_in ok hp
    simp [dPair, ix_cr this.1 this.2.1]
  have k2 := lc_enum (wy := wy) (k := 0) (bd := bd1 (gT 2 (gsC (gN 8) (gsC (gT 2 (gsC (gN 6) (gsC (gN 7) gsN))) gsN))) tY (eTup (aCons (eVar 8) (aCons (eVar 7) aNil))) [some (false, cr ws), some (false, cr us), some (false, dWay wy), some (false, cr (midC us wy)), none, none, none, none, none, none]) fun i p hp => by
    simp [dPair]
  have hz := zip_map dPair dPair wy (idleW (midC us wy))
  have k3 := lc_mapE (enc := fun p : (Int × List Int) × (Int × List Int) => PyData.tuple [dPair p.1, dPair p.2]) (out := dPair) (h := fun p : (Int × List Int) × (Int × List Int) => (p.1.1, p.2.2)) (xs := wy.zip (idleW (midC us wy))) (bd := bd1 (gT 2 (gsC (gT 2 (gsC (gN 6) (gsC (gN 9) gsN))) (gsC (gT 2 (gsC (gN 8) (gsC (gN 7) gsN))) gsN))) tY (eTup (aCons (eVar 6) (aCons (eVar 7) aNil))) [some (false, cr ws), some (false, cr us), some (false, dWay wy), some (false, cr (midC us wy)), some (false, dWay (firstW wy)), none, none, none, none, none]) fun p hp => by
    simp [dPair]
  have e3 : (wy.zip (idleW (midC us wy))).map (fun p : (Int × List Int) × (Int × List Int) => (p.1.1, p.2.2)) = secondW us wy := by
    unfold secondW
    refine List.ext_getElem (by simp [idle_len, hml]) fun i h1 h2 => ?_
    have hi : i < wy.length := by rw [List.length_map] at h2; exact h2
    have g : (midC us wy)[i]? = some (pick us wy[i].1) := by unfold midC; rw [List.getElem?_map, List.getElem?_eq_getElem hi]; rfl
    have gi := idle_at g
    have hi2 : i < (idleW (midC us wy)).length := (List.getElem?_eq_some_iff.mp gi).1
    have gi2 : (idleW (midC us wy))[i] = ((i : Int), iota (pick us wy[i].1)) := (List.getElem?_eq_some_iff.mp gi).2
    rw [List.getElem_map, List.getElem_map, List.getElem_zip, gi2]
  rw [e3] at k3
  have c1 := cap_le (ds := (wy.map fun p => pick us p.1).map PyData.int) (by simp [lim_eq]; omega)
  have hf : (firstG 0 wy).length = wy.length := by
    have : ∀ (wy : List (Int × List Int)) (k : Nat), (firstG k wy).length = wy.length := fun wy => by
      induction wy with
      | nil => intro k; rfl
      | cons p wy ih => intro k; simp [firstG, ih]
    exact this wy 0
  have c2 := cap_le (ds := (firstG 0 wy).map dPair) (by rw [List.length_map, hf, lim_eq]; omega)
  have c3 := cap_le (ds := (secondW us wy).map dPair) (by unfold secondW; simp [lim_eq]; omega)
  unfold F_parts
  refine fn_ret rfl ?_
  refine nx_seq (ρ' := [some (false, cr ws), some (false, cr us), some (false, dWay wy), some (false, cr (midC us wy)), none, none, none, none, none, none]) ?_ ?_
  · try simp [-List.map_map] at k1
    simp [-List.map_map, it]
    rw [k1, c1]
    rfl
  refine nx_seq (ρ' := [some (false, cr ws), some (false, cr us), some (false, dWay wy), some (false, cr (midC us wy)), some (false, dWay (firstW wy)), none, none, none, none, none]) ?_ ?_
  · try simp [-List.map_map] at k2
    simp [-List.map_map, it]
    rw [k2, c2]
    rfl
  refine nx_seq (ρ' := [some (false, cr ws), some (false, cr us), some (false, dWay wy), some (false, cr (midC us wy)), some (false, dWay (firstW wy)), some (false, dWay (secondW us wy)), none, none, none, none]) ?_ ?_
  · try simp [-List.map_map] at k3
    have iz : iZipD (aCons (eVar 2) (aCons (eCall F_idle (aCons (eVar 3) aNil)) aNil)) [some (false, cr ws), some (false, cr us), some (false, dWay wy), some (false, cr (midC us wy)), some (false, dWay (firstW wy)), none, none, none, none, none] = Rs.ok (zipD (wy.map dPair) ((idleW (midC us wy)).map dPair)) := by
      simp [-List.map_map, id]
      rfl
    simp [-List.map_map, -z_zip, iz, hz]
    rw [k3, c3]
    rfl
  simp
theorem int_beq (a b : Int) : (a == b) = decide (a = b) := by
  by_cases h : a = b
  · subst h; simp
  · simp [h]
/-- trays kept -/
def ktB : Nat → List (Int × List Int) → Bool
  | _, [] => true
  | k, p :: wy => decide (p.1 = (k : Int)) && ktB (k + 1) wy
theorem lc_kt {bd : PyData → Rs (List PyData)} : ∀ {wy : List (Int × List Int)} {k : Nat}, (∀ (i : Nat) (p : Int × List Int), p ∈ wy → bd (.tuple [.int (i : Int), dPair p]) = .ok [.bool (decide (p.1 = (i : Int)))]) → ∃ bs : List Bool, lcAll bd (enumG k (wy.map dPair)) = .ok (bs.map PyData.bool) ∧ bs.length = wy.length ∧ bs.all id = ktB k wy
  | [], k, h => ⟨[], rfl, rfl, rfl⟩
  | p :: wy, k, h => by
    obtain ⟨bs, e, l, a⟩ := lc_kt (wy := wy) (k := k + 1) fun i q hq => h i q (List.mem_cons_of_mem _ hq)
    refine ⟨decide (p.1 = (k : Int)) :: bs, ?_, by simp [l], by simp [ktB, a]⟩
    show (bd _).bind _ = _
    rw [h k p List.mem_cons_self, bind_ok', e]
    rfl
theorem keeps_trays_ok {wy : List (Int × List Int)} (hl : wy.length ≤ 10000) : F_keeps_trays [dWay wy] = .ok (.bool (ktB 0 wy)) := by
  obtain ⟨bs, e, l, a⟩ := lc_kt (wy := wy) (k := 0) (bd := bd1 (gT 2 (gsC (gN 1) (gsC (gT 2 (gsC (gN 2) (gsC (gN 3) gsN))) gsN))) tY (e2 eqD (eVar 2) (eVar 1)) [some (false, dWay wy), none, none, none]) fun i p hp => by
    simp [dPair, int_beq]
  have it : itemsD (dWay wy) = .ok (wy.map dPair) := rfl
  simp [F_keeps_trays, it]
  try simp at e
  rw [e, cap_le (by rw [List.length_map, l, lim_eq]; omega)]
  simp [q_all, -List.all_map]
  exact a
theorem ktB_iff : ∀ {wy : List (Int × List Int)} {k : Nat}, ktB k wy = true ↔ ∀ (i : Nat) p, wy[i]? = some p → p.1 = ((k + i : Nat) : Int)
  | [], k => by simp [ktB]
  | q :: wy, k => by
    simp only [ktB, Bool.and_eq_true, decide_eq_true_eq]
    rw [ktB_iff (wy := wy) (k := k + 1)]
    constructor
    · rintro ⟨h1, h2⟩ i p hp
      cases i with
      | zero => cases hp; exact h1
      | succ i => rw [show k + (i + 1) = k + 1 + i by omega]; exact h2 i p hp
    · intro h
      refine ⟨h 0 q rfl, fun i p hp => ?_⟩
      have := h (i + 1) p hp
      rw [show k + (i + 1) = k + 1 + i by omega] at this
      exact this
/-- wells kept -/
def kwB : List Int → List (Int × List Int) → Bool
  | x :: ws, p :: wy => decide (p.2 = iota x) && kwB ws wy
  | _, _ => true
theorem kwB_zip : ∀ (ws : List Int) (wy : List (Int × List Int)), ((wy.zip ws).all fun z => decide (z.1.2 = iota z.2)) = kwB ws wy
  | [], wy => by cases wy <;> simp [kwB]
  | _ :: _, [] => by simp [kwB]
  | x :: ws, p :: wy => by simp [kwB, ← kwB_zip ws wy]
theorem eqvAll_cr : ∀ (a b : List Int), PyData.eqvAll (a.map PyData.int) (b.map PyData.int) = decide (a = b)
  | [], [] => by simp [PyData.eqvAll]
  | [], _ :: _ => by simp [PyData.eqvAll]
  | _ :: _, [] => by simp [PyData.eqvAll]
  | x :: a, y :: b => by
    simp only [List.map_cons, PyData.eqvAll, eqvAll_cr a b, PyData.eqv]
    by_cases h : x = y
    · subst h; simp
    · simp [h]
theorem eq_crs (a b : List Int) : eqD (cr a) (cr b) = .ok (.bool (decide (a = b))) := by
  rw [q_eq (gd_ints (n := 0) a).sh (gd_ints (n := 0) b).sh]
  simp only [PyData.eqv]
  rw [eqvAll_cr]
theorem idle_rows {ws : List Int} : ws.map iota = (idleW ws).map Prod.snd := by
  refine List.ext_getElem (by simp [idle_len]) fun i h1 h2 => ?_
  rw [List.length_map] at h1
  have := idle_at (List.getElem?_eq_getElem h1)
  rw [List.getElem_map, List.getElem_map, (List.getElem?_eq_some_iff.mp this).2]
theorem keeps_wells_ok {ws : List Int} {wy : List (Int × List Int)} (hw : ∀ x ∈ ws, 0 ≤ x ∧ x ≤ 10000) (hl : ws.length ≤ 10000) : F_keeps_wells [cr ws, dWay wy] = .ok (.bool (kwB ws wy)) := by
  have id := idle_cr hw hl
  have hz := zip_map dPair dPair wy (idleW ws)
  have k3 := lc_mapE (enc := fun p : (Int × List Int) × (Int × List Int) => PyData.tuple [dPair p.1, dPair p.2]) (out := PyData.bool) (h := fun p : (Int × List Int) × (Int × List Int) => decide (p.1.2 = p.2.2)) (xs := wy.zip (idleW ws)) (bd := bd1 (gT 2 (gsC (gT 2 (gsC (gN 2) (gsC (gN 3) gsN))) (gsC (gT 2 (gsC (gN 4) (gsC (gN 5) gsN))) gsN))) tY (e2 eqD (eVar 3) (eVar 5)) [some (false, cr ws), some (false, dWay wy), none, none, none, none]) fun p hp => by
    simp [dPair, eq_crs]
  have e3 : (wy.zip (idleW ws)).map (fun p : (Int × List Int) × (Int × List Int) => decide (p.1.2 = p.2.2)) = (wy.zip ws).map fun z => decide (z.1.2 = iota z.2) := by
    refine List.ext_getElem (by simp [idle_len]) fun i h1 h2 => ?_
    have hi : i < ws.length := by simp at h2; omega
    have := idle_at (List.getElem?_eq_getElem hi)
    rw [List.getElem_map, List.getElem_map, List.getElem_zip, List.getElem_zip, (List.getElem?_eq_some_iff.mp this).2]
  rw [e3] at k3
  have iz : iZipD (aCons (eVar 1) (aCons (eCall F_idle (aCons (eVar 0) aNil)) aNil)) [some (false, cr ws), some (false, dWay wy), none, none, none, none] = Rs.ok (zipD (wy.map dPair) ((idleW ws).map dPair)) := by
    simp [-List.map_map, id]
    rfl
  simp [F_keeps_wells, -List.map_map, -z_zip, iz, hz]
  try simp [-List.map_map] at k3
  rw [k3, cap_le (by simp [lim_eq]; omega)]
  have := q_all ((wy.zip ws).map fun z => decide (z.1.2 = iota z.2))
  simp [-List.map_map, -List.all_map, this]
  rw [List.all_map, ← kwB_zip]
  rfl
theorem sh_ints (l : List Int) : SeqAt.shaped (.list (l.map PyData.int)) = true := (gd_lst (n := 0) fun d hd => by
  obtain ⟨i, _, rfl⟩ := List.mem_map.mp hd
  exact gd_int i).sh
theorem in_ints (m : Int) (l : List Int) : inD (.int m) (.list (l.map PyData.int)) = .ok (.bool (decide (m ∈ l))) := by
  have e : ((l.map PyData.int).any fun z => PyData.eqv z (.int m)) = decide (m ∈ l) := by
    induction l with
    | nil => simp
    | cons a l ih =>
      rw [List.map_cons, List.any_cons, ih]
      by_cases h : a = m
      · subst h; simp [PyData.eqv]
      · have h' : ¬ m = a := fun z => h z.symm
        simp [PyData.eqv, h, h']
  show (@ite _ _ (Classical.propDecidable _) _ _) = _
  rw [if_pos (by rw [sh_ints]; rfl), e, Bool.false_xor]
theorem idx_ints {m : Int} : ∀ {l : List Int}, m ∈ l → ∃ j : Nat, idxD (l.map PyData.int) (.int m) = some j ∧ l[j]? = some m
  | a :: l, h => by
    by_cases ha : a = m
    · subst ha
      exact ⟨0, by simp [idxD, PyData.eqv], rfl⟩
    · have hm : m ∈ l := by
        rcases List.mem_cons.mp h with z | z
        · exact absurd z.symm ha
        · exact z
      obtain ⟨j, e, g⟩ := idx_ints hm
      refine ⟨j + 1, ?_, g⟩
      simp [idxD, PyData.eqv, ha, e]
theorem index_ints {m : Int} {l : List Int} (h : m ∈ l) : ∃ j : Nat, indexD (l.map PyData.int) [.int m] = .ok (.int (j : Int)) ∧ l[j]? = some m := by
  obtain ⟨j, e, g⟩ := idx_ints h
  refine ⟨j, ?_, g⟩
  show (@ite _ _ (Classical.propDecidable _) _ _) = _
  rw [if_pos (by rw [sh_ints]; rfl), e]
theorem get_snoc {α : Type} {l : List α} {x y : α} {j : Nat} (h : (l ++ [x])[j]? = some y) : (j < l.length ∧ l[j]? = some y) ∨ (j = l.length ∧ y = x) := by
  rcases Nat.lt_or_ge j l.length with hj | hj
  · rw [List.getElem?_append_left hj] at h
    exact .inl ⟨hj, h⟩
  · rw [List.getElem?_append_right hj] at h
    have : j - l.length = 0 := by
      have := (List.getElem?_eq_some_iff.mp h).1
      simp at this
      omega
    rw [this] at h
    cases h
    exact .inr ⟨by omega, rfl⟩
/-! ### a body that returns, step by step -/
def Ret (r : Rs Out) (Φ : PyData → Prop) : Prop := ∃ d, r = .ok (.ret d) ∧ Φ d
theorem fn_R {n : Nat} {b : Ev → Rs Out} {ds : List PyData} {ρ : Ev} {Φ : PyData → Prop} (hρ : start0 n ds = ρ) (h : Ret (b ρ) Φ) : ∃ d, fn n b ds = .ok d ∧ Φ d := by
  subst hρ
  obtain ⟨d, e, k⟩ := h
  refine ⟨d, ?_, k⟩
  show (b _).bind _ = _
  rw [e]
  rfl
theorem fn_E {n : Nat} {b : Ev → Rs Out} {ds : List PyData} {ρ : Ev} {d : PyData} (hρ : start0 n ds = ρ) (h : Ret (b ρ) (· = d)) : fn n b ds = .ok d := by
  obtain ⟨d', e, rfl⟩ := fn_R hρ h
  exact e
theorem seq_R {a b : Ev → Rs Out} {ρ ρ' : Ev} {Φ : PyData → Prop} (h : a ρ = .ok (.nx ρ')) (k : Ret (b ρ') Φ) : Ret (sSeq a b ρ) Φ := by
  rw [z_seq, h]
  exact k
theorem seq_S {a b : Ev → Rs Out} {ρ : Ev} {Φ : PyData → Prop} (P : Ev → Prop) (h : Stp (a ρ) P) (k : ∀ ρ', P ρ' → Ret (b ρ') Φ) : Ret (sSeq a b ρ) Φ := by
  obtain ⟨ρ', e, p⟩ := h.ex
  exact seq_R e (k ρ' p)
theorem seq_Q {a b : Ev → Rs Out} {ρ : Ev} {d : PyData} {Φ : PyData → Prop} (h : a ρ = .ok (.ret d)) (k : Φ d) : Ret (sSeq a b ρ) Φ := by
  rw [z_seq, h]
  exact ⟨d, rfl, k⟩
theorem ret_R {f : Ev → Rs PyData} {ρ : Ev} {d : PyData} {Φ : PyData → Prop} (h : f ρ = .ok d) (k : Φ d) : Ret (sRet f ρ) Φ := by
  rw [z_ret, h]
  exact ⟨d, rfl, k⟩
theorem for_R {it : Ev → Rs (List PyData)} {g : PyData → Ev → Rs Ev} {b rest : Ev → Rs Out} {ρ : Ev} {ds : List PyData} {Φ : PyData → Prop} (hit : it ρ = .ok ds) (P : Nat → Ev → Prop) (h0 : P 0 ρ) (hs : ∀ (i : Nat) d ρ, ds[i]? = some d → P i ρ → Stp (turn g b d ρ) (P (i + 1))) (hk : ∀ ρ', P ds.length ρ' → Ret (rest ρ') Φ) : Ret (sSeq (sFor it g b) rest ρ) Φ := by
  obtain ⟨ρ', e, p⟩ := for_all P h0 hs
  refine seq_R (ρ' := ρ') ?_ (hk ρ' p)
  rw [z_for, hit, bind_ok', e]
theorem stp_seq {a b : Ev → Rs Out} {ρ ρ' : Ev} {P : Ev → Prop} (h : a ρ = .ok (.nx ρ')) (k : Stp (b ρ') P) : Stp (sSeq a b ρ) P := by
  rw [z_seq, h]
  exact k
theorem stp_of {r : Rs Out} {ρ : Ev} {P : Ev → Prop} (h : r = .ok (.nx ρ)) (k : P ρ) : Stp r P := by
  rw [h]
  exact k
theorem stp_turn {g : PyData → Ev → Rs Ev} {b : Ev → Rs Out} {d : PyData} {ρ ρ' : Ev} {P : Ev → Prop} (h : g d ρ = .ok ρ') (k : Stp (b ρ') P) : Stp (turn g b d ρ) P := by
  rw [z_turn, h, z_okE]
  exact k
theorem frz_for {i : Nat} {s : Ev → Rs Out} {ρ : Ev} {d : List PyData} (h : ρ[i]? = some (some (true, .list d))) : sFrz i s ρ = s (ρ.set i (some (false, .list d))) := by
  rw [z_frz, h]
theorem for_F {k : Nat} {it : Ev → Rs (List PyData)} {g : PyData → Ev → Rs Ev} {b rest : Ev → Rs Out} {ρ ρ1 : Ev} {d : List PyData} {ds : List PyData} {Φ : PyData → Prop} (hf : ρ[k]? = some (some (true, .list d))) (hρ : ρ.set k (some (false, .list d)) = ρ1) (hit : it ρ1 = .ok ds) (P : Nat → Ev → Prop) (h0 : P 0 ρ1) (hs : ∀ (i : Nat) d ρ, ds[i]? = some d → P i ρ → Stp (turn g b d ρ) (P (i + 1))) (hk : ∀ ρ', P ds.length ρ' → Ret (rest ρ') Φ) : Ret (sSeq (sFrz k (sFor it g b)) rest ρ) Φ := by
  obtain ⟨ρ', e, p⟩ := for_all P h0 hs
  refine seq_R (ρ' := ρ') ?_ (hk ρ' p)
  rw [frz_for hf, hρ, z_for, hit, bind_ok', e]
theorem iota_pick (r : List Int) : (iota (r.length : Int)).map (pick r) = r := by
  unfold iota
  rw [List.map_map, Int.toNat_natCast]
  exact range_pick r
theorem firstW_len (wy : List (Int × List Int)) : (firstW wy).length = wy.length := by
  have : ∀ (wy : List (Int × List Int)) (k : Nat), (firstG k wy).length = wy.length := fun wy => by
    induction wy with
    | nil => intro k; rfl
    | cons p wy ih => intro k; simp [firstG, ih]
  exact this wy 0
theorem gd_parts (a : List Int) (v w : List (Int × List Int)) : Gd 5 (.tuple [cr a, dWay v, dWay w]) := gd_tup fun d hd => by
  simp only [List.mem_cons, List.not_mem_nil, or_false] at hd
  rcases hd with rfl | rfl | rfl
  · exact gd_ints a
  · exact gd_wayN v
  · exact gd_wayN w
theorem for_S {it : Ev → Rs (List PyData)} {g : PyData → Ev → Rs Ev} {b rest : Ev → Rs Out} {ρ : Ev} {ds : List PyData} {Q : Ev → Prop} (hit : it ρ = .ok ds) (P : Nat → Ev → Prop) (h0 : P 0 ρ) (hs : ∀ (i : Nat) d ρ, ds[i]? = some d → P i ρ → Stp (turn g b d ρ) (P (i + 1))) (hk : ∀ ρ', P ds.length ρ' → Stp (rest ρ') Q) : Stp (sSeq (sFor it g b) rest ρ) Q := by
  obtain ⟨ρ', e, p⟩ := for_all P h0 hs
  refine stp_seq (ρ' := ρ') ?_ (hk ρ' p)
  rw [z_for, hit, bind_ok', e]
theorem law_rows {us ws : List Int} (hu : ∀ x ∈ us, 0 ≤ x ∧ x ≤ 60) (hl : us.length ≤ 10000) (hw : ws.length ≤ 10000) (hc : cnt (ws.length : Int) us ≤ 2000) : F_law_rows [cr us, cr ws] = .ok (.list ((fills ws.length us us.length).map dPair)) := by
  have fl : ∀ i, i ≤ us.length → (fills ws.length us i).length ≤ 2000 := fun i hi => by
    have h1 := fills_len (n := ws.length) (ws := us) hi
    have h2 := cnt_take_le (n := (ws.length : Int)) (by omega) us i
    omega
  generalize hn : ws.length = n at hw hc fl
  have ln : lenD [cr ws] = .ok (.int (n : Int)) := by show Rs.ok (PyData.int ((ws.map PyData.int).length : Int)) = _; rw [List.length_map, hn]
  unfold F_law_rows
  refine fn_E (ρ := [some (false, cr us), some (false, cr ws), none, none, none, none, none, none, none, none]) rfl ?_
  refine seq_R (ρ' := [some (false, cr us), some (false, cr ws), some (true, .list []), none, none, none, none, none, none, none]) (by simp) ?_
  refine for_R (ds := enumG 0 (us.map PyData.int)) (by simp) (fun i ρ => ∃ j3 j4 j5 j6 j7 j8, ρ = [some (false, cr us), some (false, cr ws), some (true, .list ((fills n us i).map dPair)), j3, j4, j5, j6, j7, j8, none]) ⟨none, none, none, none, none, none, by simp [fills]⟩ ?_ ?_
  · intro i d ρ hd ⟨j3, j4, j5, j6, j7, j8, hρ⟩
    subst hρ
    obtain ⟨m, hm, rfl⟩ := enum_get hd
    have hi : i < us.length := (List.getElem?_eq_some_iff.mp hm).1
    obtain ⟨m0, m1⟩ := hu m (List.mem_of_getElem? hm)
    have hp : n ^ m.toNat ≤ 2000 := by
      have h1 := cnt_term (n := (n : Int)) (by omega) hm
      have h2 : ((n ^ m.toNat : Nat) : Int) = (n : Int) ^ m.toNat := Int.natCast_pow n _
      omega
    have f1 := fills_succ n us i
    have o1 : one n us i = (rows n m.toNat).map fun r => ((i : Int), r) := by
      unfold one
      rw [List.getD_eq_getElem?_getD, hm]
      rfl
    have l1 := fl (i + 1) (by omega)
    rw [f1, o1, List.length_append, List.length_map] at l1
    refine stp_turn (ρ' := [some (false, cr us), some (false, cr ws), some (true, .list ((fills n us i).map dPair)), some (false, .int (i : Int)), some (false, .int m), j5, j6, j7, j8, none]) (by simp) ?_
    refine stp_seq (ρ' := [some (false, cr us), some (false, cr ws), some (true, .list ((fills n us i).map dPair)), some (false, .int (i : Int)), some (false, .int m), some (false, .list [.tuple []]), j6, j7, j8, none]) (by simp) ?_
    refine for_S (ds := (iota m).map PyData.int) (by simp [rgOk0 m0 (show m ≤ 16777216 by omega), rgD0]) (fun j ρ => ∃ j6 j7 j8, ρ = [some (false, cr us), some (false, cr ws), some (true, .list ((fills n us i).map dPair)), some (false, .int (i : Int)), some (false, .int m), some (false, .list ((rows n j).map cr)), j6, j7, j8, none]) ⟨j6, j7, j8, rfl⟩ ?_ ?_
    · intro j d ρ hd ⟨j6, j7, j8, hρ⟩
      subst hρ
      obtain ⟨k, hk, rfl⟩ := map_get' hd
      have hj : j < m.toNat := by have := (List.getElem?_eq_some_iff.mp hk).1; rw [iota_len] at this; exact this
      have rl := rows_len n (j + 1)
      have rb : n ^ (j + 1) ≤ 2001 := Nat.le_trans (pow_le_max (n := n) (i := j + 1) (w := m.toNat) hj) (by omega)
      refine stp_turn (ρ' := [some (false, cr us), some (false, cr ws), some (true, .list ((fills n us i).map dPair)), some (false, .int (i : Int)), some (false, .int m), some (false, .list ((rows n j).map cr)), some (false, .int k), j7, j8, none]) (by simp) ?_
      refine stp_seq (ρ' := [some (false, cr us), some (false, cr ws), some (true, .list ((fills n us i).map dPair)), some (false, .int (i : Int)), some (false, .int m), some (false, .list ((rows n j).map cr)), some (false, .int k), some (true, .list []), j8, none]) (by simp) ?_
      refine for_S (ds := (rows n j).map cr) (by simp) (fun l ρ => ∃ j8, ρ = [some (false, cr us), some (false, cr ws), some (true, .list ((fills n us i).map dPair)), some (false, .int (i : Int)), some (false, .int m), some (false, .list ((rows n j).map cr)), some (false, .int k), some (true, .list ((((rows n j).take l).flatMap fun r => (List.range n).map fun (t : Nat) => r ++ [(t : Int)]).map cr)), j8, none]) ⟨j8, by simp⟩ ?_ ?_
      · intro l d ρ hd ⟨j8, hρ⟩
        subst hρ
        obtain ⟨r, hr, rfl⟩ := map_get' hd
        have hl : l < (rows n j).length := (List.getElem?_eq_some_iff.mp hr).1
        have tk := take_snoc hr
        have ll : (((rows n j).take (l + 1)).flatMap fun r => (List.range n).map fun (t : Nat) => r ++ [(t : Int)]).length ≤ 2001 := by
          have e : rows n (j + 1) = (rows n j).flatMap fun r => (List.range n).map fun (t : Nat) => r ++ [(t : Int)] := rfl
          have e2 : (rows n j) = (rows n j).take (l + 1) ++ (rows n j).drop (l + 1) := (List.take_append_drop ..).symm
          rw [e, e2, List.flatMap_append, List.length_append] at rl
          omega
        have rlen : r.length ≤ 60 := by
          have := (rows_mem (List.mem_of_getElem? hr)).1
          omega
        rw [tk, List.flatMap_append, List.flatMap_singleton, List.length_append] at ll
        have e5 : (iota (n : Int)).map (fun t => r ++ [t]) = (List.range n).map fun (t : Nat) => r ++ [(t : Int)] := by
          unfold iota
          rw [List.map_map, Int.toNat_natCast]
          rfl
        have xt : extM ((((rows n j).take l).flatMap fun r => (List.range n).map fun (t : Nat) => r ++ [(t : Int)]).map cr) [.list (((iota (n : Int)).map (fun t => r ++ [t])).map cr)] = .ok ((((rows n j).take (l + 1)).flatMap fun r => (List.range n).map fun (t : Nat) => r ++ [(t : Int)]).map cr) := by
          rw [q_ext (by rw [List.length_map, List.length_map, List.length_map, iota_len, Int.toNat_natCast, lim_eq]; rw [List.length_map (f := fun (t : Nat) => r ++ [(t : Int)]), List.length_range] at ll; omega), tk, List.flatMap_append, List.flatMap_singleton, List.map_append, e5]
        simp [-List.map_map, -List.map_append, ln, rgOk0 (show (0 : Int) ≤ (n : Int) by omega) (show (n : Int) ≤ 16777216 by omega), rgD0]
        rw [lc_mapE (enc := PyData.int) (out := cr) (h := fun t : Int => r ++ [t]) (xs := iota (n : Int))]
        rotate_left
        · intro t ht
          have ad : addD (cr r) (.tuple [.int t]) = .ok (cr (r ++ [t])) := by
            rw [q_addT (by simp [lim_eq]; omega)]
            simp
          simp [ad, -List.map_append]
        rw [cap_le (by simp [lim_eq, iota_len]; omega)]
        simp [-List.map_map, -List.map_append, xt]
      · intro ρ' ⟨j8, hρ⟩
        subst hρ
        rw [List.length_map, List.take_length]
        simp [-List.map_map, -List.map_append]
        rfl
    · intro ρ' ⟨j6, j7, j8, hρ⟩
      subst hρ
      rw [List.length_map, iota_len]
      simp [-List.map_map, -List.map_append]
      rw [lc_mapE (enc := cr) (out := dPair) (h := fun r => ((i : Int), r)) (xs := rows n m.toNat)]
      rotate_left
      · intro r hr
        simp [dPair]
      rw [cap_le (by simp [lim_eq]; omega)]
      have xt : extM ((fills n us i).map dPair) [.list (((rows n m.toNat).map fun r => ((i : Int), r)).map dPair)] = .ok ((fills n us (i + 1)).map dPair) := by
        rw [q_ext (by simp [lim_eq]; omega), f1, o1, List.map_append]
      simp [-List.map_map, -List.map_append, xt]
  · intro ρ' ⟨j3, j4, j5, j6, j7, j8, hρ⟩
    subst hρ
    rw [enumG_len, List.length_map]
    exact ⟨_, by simp, rfl⟩
/-! ### three layers -/
def join3 (a b c : List Int) (D : Int × List (Int × List Int)) : Int × List (Int × List Int) := (fnum (b.length : Int) a (D.1, D.2.map fun f => (unpackI b c f).1), D.2.flatMap fun f => (unpackI b c f).2)
def flat3 (b c : List Int) (D : Int × List (Int × List Int)) : Int × List (Int × List Int) := (D.1, D.2.map fun f => ((unpackI b c f).1, (unpackI b c f).2.map Prod.fst))
theorem flat3_ok {a b c : List Int} {x : Int} {D : Int × List (Int × List Int)} (hb : Small b) (hc : Small c) (h : DeepOk a (putC b c) x D) : DeepOk a b (c.length : Int) (flat3 b c D) := by
  have each : ∀ f ∈ D.2, DeepOk b c x (unpackI b c f) := fun f hf => by
    obtain ⟨q, _, _, _, _, dk, _⟩ := unpack_ok hb hc (h.2 f hf)
    exact dk
  refine ⟨⟨h.1.1, h.1.2.1, ?_, fun y hy => ?_⟩, fun p hp => ?_⟩
  · have := h.1.2.2.1
    show a[D.1.toNat]? = some (((((flat3 b c D).2.map Prod.fst).length : Nat) : Int))
    rw [show ((D.1, D.2.map Prod.fst) : Int × List Int).2.length = D.2.length from List.length_map ..] at this
    rw [List.length_map]
    show a[D.1.toNat]? = some ((((D.2.map fun f => ((unpackI b c f).1, (unpackI b c f).2.map Prod.fst)).length : Nat) : Int))
    rw [List.length_map]
    exact this
  · obtain ⟨p, hp, rfl⟩ := List.mem_map.mp hy
    obtain ⟨f, hf, rfl⟩ := List.mem_map.mp hp
    exact ⟨(each f hf).1.1, (each f hf).1.2.1⟩
  · obtain ⟨f, hf, rfl⟩ := List.mem_map.mp hp
    exact (each f hf).1
theorem join3_flat (a b c : List Int) (D : Int × List (Int × List Int)) : ((join3 a b c D).1, (join3 a b c D).2.map Prod.fst) = packI a b (flat3 b c D) := by
  unfold join3 packI flat3
  simp only [List.map_map, List.map_flatMap, List.flatMap_map]
  rfl
theorem join3_ok {a b c : List Int} {x : Int} {D : Int × List (Int × List Int)} (ha : Small a) (hb : Small b) (hc : Small c) (h : DeepOk a (putC b c) x D) : DeepOk (putC a b) c x (join3 a b c D) := by
  refine ⟨?_, fun p hp => ?_⟩
  · rw [join3_flat]
    exact pack_ok ha (flat3_ok hb hc h)
  · obtain ⟨f, hf, hp⟩ := List.mem_flatMap.mp hp
    obtain ⟨q, _, _, _, _, dk, _⟩ := unpack_ok hb hc (h.2 f hf)
    exact dk.2 p hp
def regI (a b c : List Int) (p : Int × List Int) : Int × List Int := packI (putC a b) c (join3 a b c (unpackI a (putC b c) p))
def regW (a b c : List Int) : List (Int × List Int) := (idleW (putC a (putC b c))).map (regI a b c)
/-- put together, within the bounds -/
structure PutOk (a b : List Int) : Prop where
  n : cnt (b.length : Int) a ≤ 60
  c : crateD (cr (putC a b)) = true
theorem crate_small {ws : List Int} (h : crateD (cr ws) = true) : Small ws ∧ ws.length ≤ 60 := by
  unfold crateD at h
  simp at h
  refine ⟨fun x hx => ?_, h.1⟩
  have := h.2 x hx
  unfold wellD at this
  simp at this
  omega
theorem PutOk.put {a b : List Int} (h : PutOk a b) (ha : Small a) (hl : a.length ≤ 60) (hl2 : b.length ≤ 60) : F_put [cr a, cr b] = .ok (cr (putC a b)) := by
  rw [put_cr ha.le (by omega) (by omega), if_pos h.n, if_pos h.c]
theorem unpacked_twice {a b c : List Int} {x : Int} {p : Int × List Int} (ha : Small a) (hal : a.length ≤ 60) (hb : Small b) (hbl : b.length ≤ 60) (hc : Small c) (hcl : c.length ≤ 60) (pbc : PutOk b c) (hp : FillOk x (putC a (putC b c)) p) (hpl : p.2.length ≤ 100000) : F_unpacked_twice [cr a, cr b, cr c, dPair p] = .ok (.tuple [.int (unpackI a (putC b c) p).1, .tuple ((unpackI a (putC b c) p).2.map fun f => deepD (unpackI b c f))]) := by
  obtain ⟨ls, ll⟩ := crate_small pbc.c
  have u1 := unpackedI ha hal ls ll hp hpl
  obtain ⟨q, _, _, _, _, dk, _⟩ := unpack_ok ha ls hp
  have pu := pbc.put hb hbl hcl
  generalize unpackI a (putC b c) p = D at u1 dk
  obtain ⟨d1, d2, d3⟩ := deep_small ha ls dk
  rw [deepD_eq] at u1
  unfold F_unpacked_twice
  refine fn_E (ρ := [some (false, cr a), some (false, cr b), some (false, cr c), some (false, dPair p), none, none, none]) rfl ?_
  refine seq_R (ρ' := [some (false, cr a), some (false, cr b), some (false, cr c), some (false, dPair p), some (false, .int D.1), some (false, .tuple (D.2.map dPair)), none]) (by simp [pu, u1, -List.map_map]) ?_
  refine ret_R (d := .tuple [.int D.1, .tuple (D.2.map fun f => deepD (unpackI b c f))]) ?_ rfl
  simp [-List.map_map]
  rw [lc_mapE (enc := dPair) (out := fun z : PyData => z) (h := fun f => deepD (unpackI b c f)) (xs := D.2)]
  rotate_left
  · intro f hf
    have := unpackedI hb hbl hc hcl (dk.2 f hf) (by have := d3 f hf; omega)
    simp [this]
  rw [cap_le (by simp [lim_eq]; omega)]
  simp
theorem regrouped_ok {a b c : List Int} (ha : Small a) (hal : a.length ≤ 60) (hb : Small b) (hbl : b.length ≤ 60) (hc : Small c) (hcl : c.length ≤ 60) (pab : PutOk a b) (pbc : PutOk b c) (pa : PutOk a (putC b c)) : F_regrouped [cr a, cr b, cr c] = .ok (dWay (regW a b c)) := by
  obtain ⟨ls, ll⟩ := crate_small pbc.c
  obtain ⟨hs, hl⟩ := crate_small pab.c
  obtain ⟨ws, wl⟩ := crate_small pa.c
  have u1 := pab.put ha hal hbl
  have u2 := pbc.put hb hbl hcl
  have u3 := pa.put ha hal ll
  have id := idle_cr (ws := putC a (putC b c)) (fun x hx => ⟨(ws x hx).1, by have := (ws x hx).2; omega⟩) (by omega)
  have it : itemsD (dWay (idleW (putC a (putC b c)))) = .ok ((idleW (putC a (putC b c))).map dPair) := rfl
  have rl : (regW a b c).length = (putC a (putC b c)).length := by unfold regW; rw [List.length_map, idle_len]
  unfold F_regrouped
  refine fn_E (ρ := [some (false, cr a), some (false, cr b), some (false, cr c), none, none, none, none]) rfl ?_
  refine seq_R (ρ' := [some (false, cr a), some (false, cr b), some (false, cr c), some (false, cr (putC a b)), none, none, none]) (by simp [u1]) ?_
  refine seq_R (ρ' := [some (false, cr a), some (false, cr b), some (false, cr c), some (false, cr (putC a b)), some (true, .list []), none, none]) (by simp) ?_
  refine for_R (ds := (idleW (putC a (putC b c))).map dPair) (by simp [u2, u3, id, it, -List.map_map]) (fun i ρ => ∃ j5 j6, ρ = [some (false, cr a), some (false, cr b), some (false, cr c), some (false, cr (putC a b)), some (true, .list (((regW a b c).take i).map dPair)), j5, j6]) ⟨none, none, by simp⟩ ?_ ?_
  · intro i d ρ hd ⟨j5, j6, hρ⟩
    subst hρ
    obtain ⟨p, hp, rfl⟩ := map_get' hd
    have hi : i < (idleW (putC a (putC b c))).length := (List.getElem?_eq_some_iff.mp hp).1
    have hi3 : i < (putC a (putC b c)).length := by rw [← idle_len]; exact hi
    have fo := (idle_ok (fun x hx => (ws x hx).1)).2 i p _ hp (List.getElem?_eq_getElem hi3)
    have hp2 : p.2.length ≤ 12 := by
      have := ws _ (List.mem_of_getElem? fo.2.2.1)
      omega
    have v1 := unpacked_twice ha hal hb hbl hc hcl pbc fo (by omega)
    obtain ⟨q, _, _, _, _, dk, _⟩ := unpack_ok ha ls fo
    have jk := join3_ok ha hb hc dk
    have hg : (regW a b c)[i]? = some (packI (putC a b) c (join3 a b c (unpackI a (putC b c) p))) := by
      unfold regW
      rw [List.getElem?_map, hp]
      rfl
    have v3 := packedI hs hl hc hcl jk
    have fk := flat3_ok hb hc dk
    generalize hD : unpackI a (putC b c) p = D at v1 dk jk hg v3 fk
    obtain ⟨d1, _, _⟩ := deep_small ha ls dk
    obtain ⟨j1, _, _⟩ := deep_small hs hc jk
    have v2 : F_packed [cr a, cr b, .tuple [.int D.1, .tuple (D.2.map fun f => deepD (unpackI b c f))]] = .ok (deepD (join3 a b c D)) := by
      have e1 : (D.2.map fun f => ((unpackI b c f).1, (unpackI b c f).2.map dPair)).map fil = D.2.map fun f => deepD (unpackI b c f) := by rw [List.map_map]; rfl
      have e2 : (D.2.map fun f => ((unpackI b c f).1, (unpackI b c f).2.map dPair)).map Prod.fst = D.2.map fun f => (unpackI b c f).1 := by rw [List.map_map]; rfl
      have e3 : (D.2.map fun f => ((unpackI b c f).1, (unpackI b c f).2.map dPair)).flatMap (fun p => p.2) = (join3 a b c D).2.map dPair := by
        rw [List.flatMap_map]
        unfold join3
        rw [List.map_flatMap]
      have k := packed (us := a) (ws := b) (s := D.1) (fs := D.2.map fun f => ((unpackI b c f).1, (unpackI b c f).2.map dPair)) ha.le (by omega) (by omega) dk.1.1 (by have := dk.1.2.1; show D.1 ≤ _; exact Int.le_of_lt this) (fun r hr => by
        obtain ⟨f, hf, rfl⟩ := List.mem_map.mp hr
        have h0 := fk.1.2.2.2 (unpackI b c f).1 (List.mem_map.mpr ⟨_, List.mem_map.mpr ⟨f, hf, rfl⟩, rfl⟩)
        exact ⟨h0.1, by show (unpackI b c f).1 < _; omega⟩) (by rw [List.length_map]; omega) (by rw [e3, List.length_map]; omega)
      rw [e1, e2, e3] at k
      exact k
    have ap : appM (((regW a b c).take i).map dPair) [dPair (packI (putC a b) c (join3 a b c D))] = .ok (((regW a b c).take (i + 1)).map dPair) := by
      rw [q_app (by rw [List.length_map, List.length_take, lim_eq]; omega), take_snoc hg, List.map_append]
      rfl
    simp [-List.map_take, -List.map_map, v1, v2, v3, ap]
  · intro ρ' ⟨j5, j6, hρ⟩
    subst hρ
    rw [List.length_map, idle_len, ← rl, List.take_length]
    refine ret_R (d := dWay (regW a b c)) (by simp [-List.map_map]; rfl) rfl
def innerF (b c : List Int) (t : Int) : Int × List Int := (fills c.length b b.length).getD t.toNat (0, [])
theorem innerF_in {b c : List Int} (hb : Small b) {t : Int} (t0 : 0 ≤ t) (t1 : t < ((putC b c).length : Int)) : (fills c.length b b.length)[t.toNat]? = some (innerF b c t) := by
  have l := putC_len c hb
  have l2 := fills_many c.length hb
  have h : t.toNat < (fills c.length b b.length).length := by omega
  unfold innerF
  rw [List.getD_eq_getElem?_getD, List.getElem?_eq_getElem h]
  rfl
def midI (a b c : List Int) (q : Int × List Int) : Int := fnum (b.length : Int) a (q.1, q.2.map fun t => (innerF b c t).1)
def lastI (b c : List Int) (q : Int × List Int) : List Int := q.2.flatMap fun t => (innerF b c t).2
def thereI (a b c : List Int) (q : Int × List Int) : Int := fnum (c.length : Int) (putC a b) (midI a b c q, lastI b c q)
theorem flat3_q {a b c : List Int} {x : Int} {q : Int × List Int} {xs : List Int} (hb : Small b) (hc : Small c) (hq : Below ((putC b c).length : Int) q.2) (hd : ∀ f ∈ splitI (putC b c) q.2 xs, FillOk x (putC b c) f) : flat3 b c (q.1, splitI (putC b c) q.2 xs) = (q.1, q.2.map (innerF b c)) := by
  unfold flat3
  have e : (splitI (putC b c) q.2 xs).map (fun f => ((unpackI b c f).1, (unpackI b c f).2.map Prod.fst)) = (splitI (putC b c) q.2 xs).map fun f => innerF b c f.1 := by
    refine List.map_congr_left fun f hf => ?_
    have fo := hd f hf
    have g := innerF_in (c := c) hb fo.1 fo.2.1
    rw [unpackI_some g]
    show ((innerF b c f.1).1, (splitI c (innerF b c f.1).2 f.2).map Prod.fst) = _
    rw [splitI_fst]
  show (q.1, (splitI (putC b c) q.2 xs).map _) = _
  rw [e]
  have e2 : (splitI (putC b c) q.2 xs).map (fun f => innerF b c f.1) = ((splitI (putC b c) q.2 xs).map Prod.fst).map (innerF b c) := by rw [List.map_map]; rfl
  rw [e2, splitI_fst]
theorem reg_get {a b c : List Int} (ha : Small a) (hb : Small b) (hc : Small c) (hl : Small (putC b c)) {i : Nat} {q : Int × List Int} (hq : (fills (putC b c).length a a.length)[i]? = some q) : (regW a b c)[i]? = some (thereI a b c q, iota (rowW (putC b c) q.2)) ∧ FillOk ((putC b c).length : Int) a q ∧ FillOk (b.length : Int) a (q.1, q.2.map fun t => (innerF b c t).1) ∧ FillOk (c.length : Int) (putC a b) (midI a b c q, lastI b c q) := by
  have g := putC_get hq
  have gi := idle_at g
  obtain ⟨fq, _⟩ := fills_num ha hq
  have r0 : 0 ≤ rowW (putC b c) q.2 := rowW_nn (fun x hx => (hl x hx).1) _
  have hfo := (idle_ok (putC_nn (us := a) hl)).2 i _ _ gi g
  obtain ⟨q', g', f1, f2, hr, dk, pk⟩ := unpack_ok ha hl hfo
  have e0 : unpackI a (putC b c) ((i : Int), iota (rowW (putC b c) q.2)) = (q.1, splitI (putC b c) q.2 (iota (rowW (putC b c) q.2))) := unpackI_some (by show (fills _ _ _)[((i : Int)).toNat]? = _; rw [Int.toNat_natCast]; exact hq)
  have ff := flat3_ok hb hc dk
  have f3 := flat3_q (a := a) (x := rowW (putC b c) q.2) (q := q) (xs := iota (rowW (putC b c) q.2)) hb hc fq.2.2.2 (fun f hf => by
    rw [e0] at dk
    exact dk.2 f hf)
  have jk := join3_ok ha hb hc dk
  have e1 := join3_flat a b c (unpackI a (putC b c) ((i : Int), iota (rowW (putC b c) q.2)))
  rw [e0, f3] at e1
  rw [e0, f3] at ff
  have em : packI a b (q.1, q.2.map (innerF b c)) = (midI a b c q, lastI b c q) := by
    unfold packI midI lastI
    simp only [List.map_map, List.flatMap_map]
    rfl
  rw [em] at e1
  have hj := jk.1
  rw [e0, e1] at hj
  refine ⟨?_, fq, ?_, hj⟩
  · unfold regW
    rw [List.getElem?_map, gi]
    show some (regI a b c ((i : Int), iota (rowW (putC b c) q.2))) = _
    unfold regI
    rw [e0]
    unfold packI
    rw [e1]
    have hth : (join3 a b c (q.1, splitI (putC b c) q.2 (iota (rowW (putC b c) q.2)))).2.flatMap (fun p => p.2) = iota (rowW (putC b c) q.2) := by
      unfold join3
      rw [e0] at dk pk
      have : (splitI (putC b c) q.2 (iota (rowW (putC b c) q.2))).flatMap (fun f => (unpackI b c f).2.flatMap fun p => p.2) = (splitI (putC b c) q.2 (iota (rowW (putC b c) q.2))).flatMap fun f => f.2 := by
        have cg : ∀ (l : List (Int × List Int)), (∀ f ∈ l, FillOk (rowW (putC b c) q.2) (putC b c) f) → l.flatMap (fun f => (unpackI b c f).2.flatMap fun p => p.2) = l.flatMap fun f => f.2 := fun l hl => by
          induction l with
          | nil => rfl
          | cons f l ih =>
            obtain ⟨_, _, _, _, _, _, p1⟩ := unpack_ok hb hc (hl f List.mem_cons_self)
            have p2 : (unpackI b c f).2.flatMap (fun p => p.2) = f.2 := congrArg Prod.snd p1
            rw [List.flatMap_cons, List.flatMap_cons, p2, ih fun g hg => hl g (List.mem_cons_of_mem _ hg)]
        exact cg _ dk.2
      show (List.flatMap _ _).flatMap _ = _
      rw [List.flatMap_assoc, this]
      exact congrArg Prod.snd pk
    rw [hth]
    rfl
  · have := ff.1
    rw [show (q.1, q.2.map (innerF b c)).2.map Prod.fst = q.2.map fun t => (innerF b c t).1 by rw [List.map_map]; rfl] at this
    exact this
/-- the place of a filling in the list of them -/
theorem idx_pairs {q : Int × List Int} : ∀ {l : List (Int × List Int)} {j : Nat}, l[j]? = some q → (∀ m : Nat, m < j → l[m]? ≠ some q) → idxD (l.map dPair) (dPair q) = some j
  | [], j, h, _ => by simp at h
  | p :: l, 0, h, _ => by
    cases h
    simp [idxD, eqv_pair]
  | p :: l, j + 1, h, hn => by
    have hp : ¬ p = q := fun z => hn 0 (Nat.succ_pos _) (by rw [z]; rfl)
    have := idx_pairs (l := l) (j := j) h fun m hm => hn (m + 1) (by omega)
    simp [idxD, eqv_pair, hp, this]
theorem sh_pairs (l : List (Int × List Int)) : SeqAt.shaped (.list (l.map dPair)) = true := (gd_lst (n := 2) fun d hd => by
  obtain ⟨i, _, rfl⟩ := List.mem_map.mp hd
  exact gd_pair i).sh
theorem index_fills {n : Nat} {us : List Int} {q : Int × List Int} (hu : Small us) (hq : FillOk (n : Int) us q) : indexD ((fills n us us.length).map dPair) [dPair q] = .ok (.int (fnum (n : Int) us q)) := by
  have b := fnum_bound (n := (n : Int)) (by omega) hq
  have g := fill_at hu hq
  have i := idx_pairs g fun m hm hz => by
    have := (fills_num hu hz).2
    omega
  show (@ite _ _ (Classical.propDecidable _) _ _) = _
  rw [if_pos (by rw [sh_pairs, (gd_pair (n := 0) q).sh]; rfl), i]
  show Rs.ok (PyData.int (((fnum (n : Int) us q).toNat : Nat) : Int)) = _
  rw [Int.toNat_of_nonneg b.1]
/-! ### sorting, small -/
def insI (x : Int) : List Int → List Int
  | [] => [x]
  | y :: l => if x ≤ y then x :: y :: l else y :: insI x l
def insS : List Int → List Int
  | [] => []
  | x :: l => insI x (insS l)
theorem insI_perm (x : Int) : ∀ l, (insI x l).Perm (x :: l)
  | [] => .refl _
  | y :: l => by
    unfold insI
    split
    · exact .refl _
    · exact ((insI_perm x l).cons y).trans (.swap x y l)
theorem insS_perm : ∀ l, (insS l).Perm l
  | [] => .refl _
  | x :: l => (insI_perm x _).trans ((insS_perm l).cons x)
theorem insI_le {x : Int} : ∀ {l : List Int}, l.Pairwise (· ≤ ·) → (insI x l).Pairwise (· ≤ ·)
  | [], _ => by simp [insI]
  | y :: l, h => by
    have h1 := (List.pairwise_cons.mp h).1
    have h2 := (List.pairwise_cons.mp h).2
    unfold insI
    split
    · rename_i hx
      refine List.pairwise_cons.mpr ⟨fun z hz => ?_, h⟩
      rcases List.mem_cons.mp hz with rfl | hz
      · exact hx
      · exact Int.le_trans hx (h1 z hz)
    · rename_i hx
      refine List.pairwise_cons.mpr ⟨fun z hz => ?_, insI_le h2⟩
      have := (insI_perm x l).mem_iff.mp hz
      rcases List.mem_cons.mp this with rfl | hz
      · omega
      · exact h1 z hz
theorem insS_le : ∀ l, (insS l).Pairwise (· ≤ ·)
  | [] => List.Pairwise.nil
  | x :: l => insI_le (insS_le l)
theorem sortI_ins (l : List Int) : sortI l = insS l := sorted_unique ((sortI_perm l).trans (insS_perm l).symm) (sortI_le l) (insS_le l)
/-! ### the small crates -/
def smallC : List (List Int) := [[], [0], [1], [2], [0, 0], [0, 1], [0, 2], [1, 0], [1, 1], [1, 2], [2, 0], [2, 1], [2, 2]]
theorem in_smallC {us : List Int} (hl : (us.length : Int) ≤ 2) (h : ∀ x ∈ us, 0 ≤ x ∧ x ≤ 2) : us ∈ smallC := by
  have c : ∀ x : Int, 0 ≤ x ∧ x ≤ 2 → x = 0 ∨ x = 1 ∨ x = 2 := fun x hx => by omega
  match us, hl, h with
  | [], _, _ => decide
  | [a], _, h =>
    rcases c a (h a List.mem_cons_self) with rfl | rfl | rfl <;> decide
  | [a, b], _, h =>
    rcases c a (h a List.mem_cons_self) with rfl | rfl | rfl <;> rcases c b (h b (List.mem_cons_of_mem _ List.mem_cons_self)) with rfl | rfl | rfl <;> decide
  | a :: b :: c' :: l, hl, _ => simp at hl; omega
def pairOk (a b : List Int) : Bool := decide (cnt (b.length : Int) a ≤ 60) && crateD (cr (putC a b)) && [0, 1, 2].all fun n => decide (cnt n (putC a b) = cnt (cnt n b) a)
theorem pair_ok : (smallC.all fun a => smallC.all fun b => pairOk a b) = true := by decide +kernel
theorem small_pair {a b : List Int} (ha : a ∈ smallC) (hb : b ∈ smallC) : PutOk a b ∧ ∀ n : Nat, n ≤ 2 → cnt (n : Int) (putC a b) = cnt (cnt (n : Int) b) a := by
  have h := List.all_eq_true.mp (List.all_eq_true.mp pair_ok a ha) b hb
  unfold pairOk at h
  rw [Bool.and_eq_true, Bool.and_eq_true] at h
  refine ⟨⟨of_decide_eq_true h.1.1, h.1.2⟩, fun n hn => ?_⟩
  have k := List.all_eq_true.mp h.2 (n : Int) (by
    have : n = 0 ∨ n = 1 ∨ n = 2 := by omega
    rcases this with rfl | rfl | rfl <;> decide)
  exact of_decide_eq_true k
@[simp] theorem z_zipTL (ρ : Ev) (f : Ev → Rs (List PyData)) : iZipTLD f ρ = (f ρ).bind fun | [.tuple as, .list bs] => .ok (zipD as bs) | _ => .bad := rfl
@[simp] theorem z_gTL (ρ : Ev) (n : Nat) (gs : List PyData → Ev → Rs Ev) (ds : List PyData) : gTL n gs (.list ds) ρ = if ds.length = n then gs ds ρ else .bad := rfl
@[simp] theorem z_look (ρ : Ev) (i : Nat) (f : Ev → Rs Bool) : tLook i f ρ = (match ρ[i]? with | some (some (true, .list ds)) => f (ρ.set i (some (false, .list ds))) | _ => f ρ) := rfl
theorem crate_mk {ws : List Int} (h : Small ws) (hl : ws.length ≤ 60) : crateD (cr ws) = true := by
  unfold crateD
  simp
  refine ⟨hl, fun x hx => ?_⟩
  have := h x hx
  unfold wellD
  simp
  omega
theorem perm_of_sub : ∀ {l r : List Int}, l.Nodup → (∀ x ∈ l, x ∈ r) → r.length ≤ l.length → l.Perm r
  | [], r, _, _, h => by
    have : r = [] := List.eq_nil_of_length_eq_zero (by simpa using h)
    rw [this]
  | x :: l, r, hn, hs, h => by
    obtain ⟨h1, h2⟩ := List.nodup_cons.mp hn
    have hx := hs x List.mem_cons_self
    have hp := perm_of_sub (l := l) (r := r.erase x) h2 (fun y hy => (List.mem_erase_of_ne (fun z : y = x => h1 (z ▸ hy))).mpr (hs y (List.mem_cons_of_mem _ hy))) (by rw [List.length_erase_of_mem hx]; simp at h; omega)
    exact (hp.cons x).trans (List.perm_cons_erase hx).symm
theorem iota_mem {n y : Int} : y ∈ iota n ↔ 0 ≤ y ∧ y < n := by
  refine ⟨fun h => iota_below n y h, fun ⟨h0, h1⟩ => ?_⟩
  have := iota_get (x := n) (i := y.toNat) (by omega)
  rw [show ((y.toNat : Nat) : Int) = y by omega] at this
  exact List.mem_of_getElem? this
theorem iota_le (n : Int) : (iota n).Pairwise (· ≤ ·) := by
  unfold iota
  rw [List.pairwise_map]
  exact List.pairwise_lt_range.imp fun h => by omega
theorem sort_iota {l : List Int} {n : Int} (h : l.Perm (iota n)) : sortI l = iota n := sorted_unique ((sortI_perm l).trans h) (sortI_le l) (iota_le n)
/-! ### regrouped: each tray just once -/
theorem innerF_num {b c : List Int} (hb : Small b) {t : Int} (t0 : 0 ≤ t) (t1 : t < ((putC b c).length : Int)) : fnum (c.length : Int) b (innerF b c t) = t ∧ FillOk (c.length : Int) b (innerF b c t) := by
  obtain ⟨h1, h2⟩ := fills_num hb (innerF_in hb t0 t1)
  exact ⟨by rw [h2]; omega, h1⟩
theorem there_inj {a b c : List Int} (ha : Small a) (hb : Small b) (hc : Small c) (hab : Small (putC a b)) (hl : Small (putC b c)) {i j : Nat} {q r : Int × List Int} (hq : (fills (putC b c).length a a.length)[i]? = some q) (hr : (fills (putC b c).length a a.length)[j]? = some r) (h : thereI a b c q = thereI a b c r) : q = r := by
  obtain ⟨_, f1, f2, f3⟩ := reg_get ha hb hc hl hq
  obtain ⟨_, g1, g2, g3⟩ := reg_get ha hb hc hl hr
  have e1 := fill_at hab f3
  have e2 := fill_at hab g3
  unfold thereI at h
  rw [h, e2] at e1
  have e3 := Option.some.inj e1
  have e4 : midI a b c r = midI a b c q := congrArg Prod.fst e3
  have e5 : lastI b c r = lastI b c q := congrArg Prod.snd e3
  have k1 := fill_at ha f2
  have k2 := fill_at ha g2
  unfold midI at e4
  rw [← e4, k2] at k1
  have k3 := Option.some.inj k1
  have k4 : r.1 = q.1 := (Prod.mk.inj k3).1
  have k5 : (r.2.map fun t => (innerF b c t).1) = q.2.map fun t => (innerF b c t).1 := (Prod.mk.inj k3).2
  have sp : ∀ {z : Int × List Int}, FillOk ((putC b c).length : Int) a z → splitI b (z.2.map fun t => (innerF b c t).1) (lastI b c z) = z.2.map (innerF b c) := fun {z} hz => by
    have := splitI_join (ws := b) (fs := z.2.map (innerF b c)) fun p hp => by
      obtain ⟨t, ht, rfl⟩ := List.mem_map.mp hp
      obtain ⟨t0, t1⟩ := hz.2.2.2 t ht
      exact fill_pick (innerF_num hb t0 t1).2
    rw [List.map_map, List.flatMap_map] at this
    exact this
  have bk : ∀ {z : Int × List Int}, FillOk ((putC b c).length : Int) a z → (z.2.map (innerF b c)).map (fnum (c.length : Int) b) = z.2 := fun {z} hz => by
    rw [List.map_map]
    have : z.2.map (fnum (c.length : Int) b ∘ innerF b c) = z.2.map id := List.map_congr_left fun t ht => by
      obtain ⟨t0, t1⟩ := hz.2.2.2 t ht
      exact (innerF_num hb t0 t1).1
    rw [this, List.map_id]
  have s1 := sp f1
  have s2 := sp g1
  rw [k5, e5, s1] at s2
  have b1 := bk f1
  rw [s2, bk g1] at b1
  exact Prod.ext k4.symm b1.symm
theorem reg_way {a b c : List Int} (ha : Small a) (hb : Small b) (hc : Small c) (hl : Small (putC b c)) (hab : Small (putC a b)) : WayOk (putC a (putC b c)) (putC (putC a b) c) (regW a b c) := by
  refine ⟨by unfold regW; rw [List.length_map, idle_len], fun i p x hp hx => ?_⟩
  have gi := idle_at hx
  unfold regW at hp
  rw [List.getElem?_map, gi] at hp
  cases hp
  have fo := (idle_ok (putC_nn (us := a) hl)).2 i _ _ gi hx
  obtain ⟨_, _, _, _, _, dk, _⟩ := unpack_ok ha hl fo
  exact pack_ok hab (join3_ok ha hb hc dk)
theorem reg_perm {a b c : List Int} (ha : Small a) (hb : Small b) (hc : Small c) (hab : Small (putC a b)) (hl : Small (putC b c)) (hn : cnt (c.length : Int) (putC a b) = ((putC a (putC b c)).length : Int)) : ((regW a b c).map Prod.fst).Perm (iota (cnt (c.length : Int) (putC a b))) := by
  have w := reg_way ha hb hc hl hab
  have len := w.1
  have pl := putC_len c hab
  have fl := putC_len (us := a) (putC b c) ha
  have fm := fills_many (us := a) (putC b c).length ha
  have get : ∀ i, i < (regW a b c).length → ∃ q, (fills (putC b c).length a a.length)[i]? = some q ∧ (regW a b c)[i]? = some (thereI a b c q, iota (rowW (putC b c) q.2)) := fun i hi => by
    have h : i < (fills (putC b c).length a a.length).length := by omega
    exact ⟨_, List.getElem?_eq_getElem h, (reg_get ha hb hc hl (List.getElem?_eq_getElem h)).1⟩
  refine perm_of_sub ?_ (fun x hx => ?_) (by rw [iota_len, List.length_map]; omega)
  · refine List.pairwise_iff_getElem.mpr fun i j hi hj hij z => ?_
    rw [List.length_map] at hi hj
    obtain ⟨q, q1, q2⟩ := get i hi
    obtain ⟨r, r1, r2⟩ := get j hj
    rw [List.getElem_map, List.getElem_map, (List.getElem?_eq_some_iff.mp q2).2, (List.getElem?_eq_some_iff.mp r2).2] at z
    have z : thereI a b c q = thereI a b c r := z
    have e := there_inj ha hb hc hab hl q1 r1 z
    have n1 := (fills_num ha q1).2
    have n2 := (fills_num ha r1).2
    rw [e] at n1
    omega
  · obtain ⟨p, hp, rfl⟩ := List.mem_map.mp hx
    obtain ⟨i, hi⟩ := List.getElem?_of_mem hp
    have h1 := (List.getElem?_eq_some_iff.mp hi).1
    have h2 : i < (putC a (putC b c)).length := by omega
    have := w.2 i p _ hi (List.getElem?_eq_getElem h2)
    rw [iota_mem]
    exact ⟨this.1, by have := this.2.1; omega⟩
theorem reg_small {a b c : List Int} (ha : Small a) (hb : Small b) (hc : Small c) (hab : Small (putC a b)) (hl : Small (putC b c)) (hs : Small (putC a (putC b c))) (hn : cnt (c.length : Int) (putC a b) = ((putC a (putC b c)).length : Int)) : Small (putC (putC a b) c) := by
  have w := reg_way ha hb hc hl hab
  have pl := putC_len c hab
  intro x hx
  obtain ⟨j, hj⟩ := List.getElem?_of_mem hx
  have hj1 := (List.getElem?_eq_some_iff.mp hj).1
  have hm : ((j : Nat) : Int) ∈ (regW a b c).map Prod.fst := (reg_perm ha hb hc hab hl hn).mem_iff.mpr (iota_mem.mpr ⟨by omega, by omega⟩)
  obtain ⟨p, hp, hpj⟩ := List.mem_map.mp hm
  obtain ⟨i, hi⟩ := List.getElem?_of_mem hp
  have h1 := (List.getElem?_eq_some_iff.mp hi).1
  have h2 : i < (putC a (putC b c)).length := by rw [← w.1]; exact h1
  have g := w.2 i p _ hi (List.getElem?_eq_getElem h2)
  have hq : i < (fills (putC b c).length a a.length).length := by
    have := putC_len (us := a) (putC b c) ha
    have := fills_many (us := a) (putC b c).length ha
    omega
  have rg := reg_get ha hb hc hl (List.getElem?_eq_getElem hq)
  rw [rg.1] at hi
  cases hi
  have pg := putC_get (us := a) (ws := putC b c) (List.getElem?_eq_getElem hq)
  have sm := hs _ (List.mem_of_getElem? pg)
  have gl := g.2.2.1
  rw [hpj, Int.toNat_natCast, hj] at gl
  have gl := Option.some.inj gl
  rw [gl, iota_len]
  omega
/-! ### how many fillings a crate put together has -/
theorem sum_mapL {α : Type} (f : α → Int) (c : Int) : ∀ l : List α, (l.map fun x => c * f x).sum = c * (l.map f).sum
  | [] => by simp
  | x :: l => by simp [sum_mapL f c l, Int.mul_add]
theorem sum_flatI {α : Type} (f : α → List Int) : ∀ l : List α, (l.flatMap f).sum = (l.map fun x => (f x).sum).sum
  | [] => rfl
  | x :: l => by simp [List.flatMap_cons, List.sum_append, sum_flatI f l]
theorem cnt_rows {n : Int} {ws : List Int} (hw : ∀ x ∈ ws, 0 ≤ x) : ∀ m : Nat, ((rows ws.length m).map fun r => n ^ (rowW ws r).toNat).sum = cnt n ws ^ m
  | 0 => by
    show (([[]] : List (List Int)).map fun r => n ^ (rowW ws r).toNat).sum = _
    simp [rowW_nil]
  | m + 1 => by
    have e : rows ws.length (m + 1) = (rows ws.length m).flatMap fun r => (List.range ws.length).map fun (t : Nat) => r ++ [(t : Int)] := rfl
    have c1 : ∀ r : List Int, ((List.range ws.length).map fun (t : Nat) => n ^ (rowW ws (r ++ [(t : Int)])).toNat) = (List.range ws.length).map fun (t : Nat) => n ^ (rowW ws r).toNat * n ^ (pick ws (t : Int)).toNat := fun r => List.map_congr_left fun t ht => by
      have r0 := rowW_nn hw r
      have p0 := pick_nn hw (t : Int)
      rw [rowW_app, rowW_cons, rowW_nil, Int.add_zero, Int.toNat_add r0 p0, Int.pow_add]
    have c2 : ((List.range ws.length).map fun (t : Nat) => n ^ (pick ws (t : Int)).toNat).sum = cnt n ws := by
      unfold cnt
      conv => rhs; rw [← range_pick ws]
      rw [List.map_map]
      rfl
    rw [e, List.map_flatMap, sum_flatI]
    have c3 : ((rows ws.length m).map fun r => (((List.range ws.length).map fun (t : Nat) => r ++ [(t : Int)]).map fun r => n ^ (rowW ws r).toNat).sum) = (rows ws.length m).map fun r => cnt n ws * n ^ (rowW ws r).toNat := List.map_congr_left fun r _ => by
      rw [List.map_map]
      show ((List.range ws.length).map fun (t : Nat) => n ^ (rowW ws (r ++ [(t : Int)])).toNat).sum = _
      rw [c1 r, sum_mapL (fun (t : Nat) => n ^ (pick ws (t : Int)).toNat), c2, Int.mul_comm]
    rw [c3, sum_mapL, cnt_rows hw m, Int.pow_succ, Int.mul_comm]
theorem cnt_put {n : Int} {us ws : List Int} (hw : ∀ x ∈ ws, 0 ≤ x) : cnt n (putC us ws) = cnt (cnt n ws) us := by
  rw [putC_flat]
  show ((us.flatMap fun x => (rows ws.length x.toNat).map (rowW ws)).map fun x => n ^ x.toNat).sum = _
  rw [List.map_flatMap, sum_flatI]
  show _ = (us.map fun x => cnt n ws ^ x.toNat).sum
  congr 1
  refine List.map_congr_left fun x _ => ?_
  rw [List.map_map]
  exact cnt_rows hw x.toNat
/-! ### within the bounds -/
structure Fit (us ws : List Int) : Prop where
  n : cnt (ws.length : Int) us ≤ 30
  w : ∀ u ∈ us, ∀ y ∈ ws, u * y ≤ 12
theorem rowW_le {ws : List Int} {m : Int} (hm : ∀ y ∈ ws, y ≤ m) : ∀ r : List Int, Below (ws.length : Int) r → rowW ws r ≤ (r.length : Int) * m
  | [], _ => by rw [rowW_nil]; simp
  | t :: r, h => by
    obtain ⟨t0, t1, h'⟩ := below_cons h
    have := hm _ (List.mem_of_getElem? (pick_in t0 t1))
    have := rowW_le hm r h'
    rw [rowW_cons, List.length_cons, Int.natCast_add, Int.add_mul]
    show _ ≤ _ + 1 * m
    rw [Int.one_mul]
    omega
theorem Fit.small {us ws : List Int} (h : Fit us ws) (hu : Small us) (hw : Small ws) : Small (putC us ws) := fun x hx => by
  refine ⟨putC_nn (us := us) hw x hx, ?_⟩
  unfold putC at hx
  obtain ⟨q, hq, rfl⟩ := List.mem_map.mp hx
  obtain ⟨i, hi⟩ := List.getElem?_of_mem hq
  have fq := (fills_num hu hi).1
  by_cases h0 : q.2 = []
  · rw [h0, rowW_nil]; decide
  · have hne : 0 < ws.length := by
      cases hr : q.2 with
      | nil => exact absurd hr h0
      | cons t r =>
        have := fq.2.2.2 t (by rw [hr]; exact List.mem_cons_self)
        omega
    obtain ⟨m1, m2⟩ := maxI_mem (ns := ws) hne
    have := rowW_le m2 q.2 fq.2.2.2
    have := h.w _ (List.mem_of_getElem? fq.2.2.1) _ m1
    omega
theorem Fit.ok {us ws : List Int} (h : Fit us ws) (hu : Small us) (hw : Small ws) : PutOk us ws := by
  have l := putC_len ws hu
  have n := h.n
  exact ⟨by omega, crate_mk (h.small hu hw) (by omega)⟩
theorem reg_mem {a b c : List Int} (ha : Small a) (hb : Small b) (hc : Small c) (hab : Small (putC a b)) (hl : Small (putC b c)) (hn : cnt (c.length : Int) (putC a b) = ((putC a (putC b c)).length : Int)) : ∀ x ∈ putC (putC a b) c, x ∈ putC a (putC b c) := by
  have w := reg_way ha hb hc hl hab
  have pl := putC_len c hab
  intro x hx
  obtain ⟨j, hj⟩ := List.getElem?_of_mem hx
  have hj1 := (List.getElem?_eq_some_iff.mp hj).1
  have hm : ((j : Nat) : Int) ∈ (regW a b c).map Prod.fst := (reg_perm ha hb hc hab hl hn).mem_iff.mpr (iota_mem.mpr ⟨by omega, by omega⟩)
  obtain ⟨p, hp, hpj⟩ := List.mem_map.mp hm
  obtain ⟨i, hi⟩ := List.getElem?_of_mem hp
  have h1 := (List.getElem?_eq_some_iff.mp hi).1
  have h2 : i < (putC a (putC b c)).length := by rw [← w.1]; exact h1
  have g := w.2 i p _ hi (List.getElem?_eq_getElem h2)
  have hq : i < (fills (putC b c).length a a.length).length := by
    have := putC_len (us := a) (putC b c) ha
    have := fills_many (us := a) (putC b c).length ha
    omega
  have rg := reg_get ha hb hc hl (List.getElem?_eq_getElem hq)
  rw [rg.1] at hi
  cases hi
  have pg := putC_get (us := a) (ws := putC b c) (List.getElem?_eq_getElem hq)
  have r0 : 0 ≤ rowW (putC b c) (fills (putC b c).length a a.length)[i].2 := rowW_nn (fun x hx => (hl x hx).1) _
  have gl := g.2.2.1
  rw [hpj, Int.toNat_natCast, hj] at gl
  have gl := Option.some.inj gl
  rw [iota_len, Int.toNat_of_nonneg r0] at gl
  rw [gl]
  exact List.mem_of_getElem? pg
theorem reg_cnt {a b c : List Int} (ha : Small a) (hb : Small b) (hc : Small c) : cnt (c.length : Int) (putC a b) = ((putC a (putC b c)).length : Int) := by
  rw [cnt_put (fun x hx => (hb x hx).1), putC_len (putC b c) ha, putC_len c hb]
/-- the other grouping -/
theorem reg_put {a b c : List Int} (ha : Small a) (hb : Small b) (hc : Small c) (hab : Small (putC a b)) (hl : Small (putC b c)) (hs : Small (putC a (putC b c))) (hn : (putC a (putC b c)).length ≤ 60) : PutOk (putC a b) c ∧ Small (putC (putC a b) c) ∧ (putC (putC a b) c).length = (putC a (putC b c)).length := by
  have e := reg_cnt ha hb hc
  have l := putC_len c hab
  have sm := reg_small ha hb hc hab hl hs e
  exact ⟨⟨by omega, crate_mk sm (by omega)⟩, sm, by omega⟩
/-! ### regrouped done to fillings -/
theorem join3_map (a b c : List Int) (f : Int → Int) (D : Int × List (Int × List Int)) : join3 a b c (mapD f D) = mapD f (join3 a b c D) := by
  have e : ∀ p : Int × List Int, unpackI b c (p.1, p.2.map f) = mapD f (unpackI b c p) := fun p => unpack_map b c f p.1 p.2
  unfold join3 mapD
  simp only [List.map_map, List.flatMap_map, List.map_flatMap]
  refine Prod.ext ?_ ?_
  · show fnum _ _ (D.1, _) = fnum _ _ (D.1, _)
    congr 2
    refine List.map_congr_left fun p _ => ?_
    show (unpackI b c (p.1, p.2.map f)).1 = _
    rw [e]
    rfl
  · show D.2.flatMap _ = D.2.flatMap _
    refine congrArg (fun g => D.2.flatMap g) (funext fun p => ?_)
    show (unpackI b c (p.1, p.2.map f)).2 = _
    rw [e]
    rfl
theorem pick_self (p : Int × List Int) : p = (p.1, (iota ((p.2.length : Nat) : Int)).map (pick p.2)) := by
  refine Prod.ext rfl ?_
  show p.2 = _
  unfold iota
  rw [List.map_map, Int.toNat_natCast]
  exact (range_pick p.2).symm
theorem step_reg {a b c : List Int} {x : Int} {p : Int × List Int} (hp : FillOk x (putC a (putC b c)) p) : stepW (regW a b c) p = regI a b c p := by
  have g := idle_at hp.2.2.1
  rw [show ((p.1.toNat : Nat) : Int) = p.1 by have := hp.1; omega] at g
  have gp : (regW a b c)[p.1.toNat]? = some (regI a b c (p.1, iota ((p.2.length : Nat) : Int))) := by
    unfold regW
    rw [List.getElem?_map, g]
    rfl
  rw [step_some gp]
  conv => rhs; rw [pick_self p]
  unfold regI
  rw [unpack_map, join3_map, pack_map]
theorem reg_fill {a b c : List Int} {x : Int} {p : Int × List Int} (ha : Small a) (hb : Small b) (hc : Small c) (hab : Small (putC a b)) (hl : Small (putC b c)) (hp : FillOk x (putC a (putC b c)) p) : FillOk x (putC (putC a b) c) (regI a b c p) ∧ unpackI (putC a b) c (regI a b c p) = join3 a b c (unpackI a (putC b c) p) := by
  obtain ⟨_, _, _, _, _, dk, _⟩ := unpack_ok ha hl hp
  have jk := join3_ok ha hb hc dk
  exact ⟨pack_ok hab jk, unpack_pack hab jk⟩
theorem actO_reg {a b c : List Int} {x : Int} {fs : List (Int × List Int)} {q : Int × List Int} {ds : List Int} (ha : Small a) (hb : Small b) (hc : Small c) (hl : Small (putC b c)) (fq : FillOk ((putC b c).length : Int) a q) (hf : rowW (putC b c) q.2 = ((fs.length : Nat) : Int)) : actO (regW a b c) (fnum ((putC b c).length : Int) a q, fs) = (thereI a b c q, fs) := by
  have g := (reg_get ha hb hc hl (fill_at ha fq)).1
  rw [actO_some (D := (fnum ((putC b c).length : Int) a q, fs)) g, hf]
  exact Prod.ext rfl (iota_pickP fs)
theorem innerF_of {b c : List Int} (hb : Small b) {r : Int × List Int} (fr : FillOk (c.length : Int) b r) : innerF b c (fnum (c.length : Int) b r) = r := by
  unfold innerF
  rw [List.getD_eq_getElem?_getD, fill_at hb fr]
  rfl
/-! ### four layers -/
theorem penta {a b c d : List Int} {x : Int} {D : Int × List (Int × List Int)} (ha : Small a) (hb : Small b) (hc : Small c) (hd : Small d) (hab : Small (putC a b)) (hbc : Small (putC b c)) (hcd : Small (putC c d)) (hbcd : Small (putC b (putC c d))) (hbcd' : Small (putC (putC b c) d)) (h : DeepOk a (putC b (putC c d)) x D) :
    join3 (putC a b) c d (join3 a b (putC c d) D) = actO (regW a b c) (join3 a (putC b c) d (actI (regW b c d) D)) := by
  have wb := reg_way hb hc hd hcd hbc
  have h1 := actI_ok wb h
  have U : ∀ f ∈ D.2, unpackI (putC b c) d (stepW (regW b c d) f) = join3 b c d (unpackI b (putC c d) f) := fun f hf => by
    rw [step_reg (h.2 f hf)]
    exact (reg_fill hb hc hd hbc hcd (h.2 f hf)).2
  have dk : ∀ f ∈ D.2, DeepOk b (putC c d) x (unpackI b (putC c d) f) := fun f hf => by
    obtain ⟨_, _, _, _, _, dk, _⟩ := unpack_ok hb hcd (h.2 f hf)
    exact dk
  have e1 : join3 a (putC b c) d (actI (regW b c d) D) = (fnum ((putC b c).length : Int) a (D.1, D.2.map fun f => (join3 b c d (unpackI b (putC c d) f)).1), D.2.flatMap fun f => (join3 b c d (unpackI b (putC c d) f)).2) := by
    unfold join3 actI
    simp only [List.map_map, List.flatMap_map]
    refine Prod.ext ?_ ?_
    · show fnum _ _ (D.1, _) = fnum _ _ (D.1, _)
      congr 2
      exact List.map_congr_left fun f hf => congrArg Prod.fst (U f hf)
    · have : ∀ l : List (Int × List Int), (∀ f ∈ l, f ∈ D.2) → l.flatMap (fun f => (unpackI (putC b c) d (stepW (regW b c d) f)).2) = l.flatMap fun f => (join3 b c d (unpackI b (putC c d) f)).2 := fun l => by
        induction l with
        | nil => intro _; rfl
        | cons f l ih =>
          intro hm
          rw [List.flatMap_cons, List.flatMap_cons, ih fun g hg => hm g (List.mem_cons_of_mem _ hg), U f (hm f List.mem_cons_self)]
      exact this D.2 fun _ hf => hf
  have jk := join3_ok ha hbc hd h1
  have fk := (flat3_ok (a := a) hbc hd h1).1
  rw [e1] at jk
  have fq : FillOk ((putC b c).length : Int) a (D.1, D.2.map fun f => (join3 b c d (unpackI b (putC c d) f)).1) := by
    have e2 : ((flat3 (putC b c) d (actI (regW b c d) D)).1, (flat3 (putC b c) d (actI (regW b c d) D)).2.map Prod.fst) = (D.1, D.2.map fun f => (join3 b c d (unpackI b (putC c d) f)).1) := by
      unfold flat3 actI
      simp only [List.map_map]
      refine Prod.ext rfl ?_
      exact List.map_congr_left fun f hf => congrArg Prod.fst (U f hf)
    rw [e2] at fk
    exact fk
  rw [e1]
  have rw0 : rowW (putC b c) (D.2.map fun f => (join3 b c d (unpackI b (putC c d) f)).1) = (((D.2.flatMap fun f => (join3 b c d (unpackI b (putC c d) f)).2).length : Nat) : Int) := by
    have g1 := putC_get (fill_at ha fq)
    have g2 := jk.1.2.2.1
    have g3 : (putC a (putC b c))[(fnum ((putC b c).length : Int) a (D.1, D.2.map fun f => (join3 b c d (unpackI b (putC c d) f)).1)).toNat]? = some (((((D.2.flatMap fun f => (join3 b c d (unpackI b (putC c d) f)).2).map Prod.fst).length : Nat)) : Int) := g2
    rw [g1, List.length_map] at g3
    exact Option.some.inj g3
  rw [actO_reg (x := 0) (ds := []) ha hb hc hbc fq rw0]
  have inn : ∀ f ∈ D.2, innerF b c (join3 b c d (unpackI b (putC c d) f)).1 = ((unpackI b (putC c d) f).1, (unpackI b (putC c d) f).2.map fun g => (unpackI c d g).1) := fun f hf => by
    have k := (flat3_ok (a := b) hc hd (dk f hf)).1
    have e3 : ((flat3 c d (unpackI b (putC c d) f)).1, (flat3 c d (unpackI b (putC c d) f)).2.map Prod.fst) = ((unpackI b (putC c d) f).1, (unpackI b (putC c d) f).2.map fun g => (unpackI c d g).1) := by
      unfold flat3
      simp only [List.map_map]
      rfl
    rw [e3] at k
    exact innerF_of hb k
  unfold thereI midI lastI
  rw [List.map_map, List.flatMap_map]
  have m1 : D.2.map ((fun t => (innerF b c t).1) ∘ fun f => (join3 b c d (unpackI b (putC c d) f)).1) = D.2.map fun f => (unpackI b (putC c d) f).1 := List.map_congr_left fun f hf => congrArg Prod.fst (inn f hf)
  have m2 : (D.2.flatMap fun f => (innerF b c (join3 b c d (unpackI b (putC c d) f)).1).2) = D.2.flatMap fun f => (unpackI b (putC c d) f).2.map fun g => (unpackI c d g).1 := by
    have : ∀ l : List (Int × List Int), (∀ f ∈ l, f ∈ D.2) → (l.flatMap fun f => (innerF b c (join3 b c d (unpackI b (putC c d) f)).1).2) = l.flatMap fun f => (unpackI b (putC c d) f).2.map fun g => (unpackI c d g).1 := fun l => by
      induction l with
      | nil => intro _; rfl
      | cons f l ih =>
        intro hm
        rw [List.flatMap_cons, List.flatMap_cons, ih fun g hg => hm g (List.mem_cons_of_mem _ hg), inn f (hm f List.mem_cons_self)]
    exact this D.2 fun _ hf => hf
  rw [m1, m2]
  unfold join3
  simp only [List.map_flatMap, List.flatMap_assoc]
/-- two roads over four layers -/
theorem four_roads {a b c d : List Int} (ha : Small a) (hb : Small b) (hc : Small c) (hd : Small d) (hab : Small (putC a b)) (hbc : Small (putC b c)) (hcd : Small (putC c d)) (hbcd : Small (putC b (putC c d))) (hbcd' : Small (putC (putC b c) d)) (habc : Small (putC a (putC b c))) (habc' : Small (putC (putC a b) c)) :
    thenW (regW a b (putC c d)) (regW (putC a b) c d) = thenW (thenW (putW a (putC b (putC c d)) a (putC (putC b c) d) (idleW a) (regW b c d)) (regW a (putC b c) d)) (putW (putC a (putC b c)) d (putC (putC a b) c) d (regW a b c) (idleW d)) := by
  have wb := reg_way hb hc hd hcd hbc
  have wa := reg_way ha hb hc hbc hab
  have ida : WayOk a a (idleW a) := idle_ok fun x hx => (ha x hx).1
  have idd : WayOk d d (idleW d) := idle_ok fun x hx => (hd x hx).1
  have actOi : ∀ {us ws : List Int} {x : Int} {D : Int × List (Int × List Int)}, DeepOk us ws x D → actO (idleW us) D = D := fun {us ws x D} h => by
    have g := idle_at h.1.2.2.1
    rw [show ((D.1.toNat : Nat) : Int) = D.1 by have := h.1.1; omega] at g
    have g : (idleW us)[D.1.toNat]? = some (D.1, iota (((D.2.map Prod.fst).length : Nat) : Int)) := g
    rw [actO_some g, List.length_map]
    exact Prod.ext rfl (iota_pickP D.2)
  have actIi : ∀ {us ws : List Int} {x : Int} {D : Int × List (Int × List Int)}, DeepOk us ws x D → actI (idleW ws) D = D := fun {us ws x D} h => by
    refine Prod.ext rfl ?_
    show D.2.map (stepW (idleW ws)) = D.2
    refine (List.map_congr_left fun p hp => ?_).trans (List.map_id _)
    exact step_idle (h.2 p hp)
  unfold thenW
  conv => lhs; arg 2; unfold regW
  conv => rhs; arg 2; arg 2; unfold putW
  rw [List.map_map, List.map_map, List.map_map]
  refine List.map_congr_left fun p hp => ?_
  obtain ⟨i, hi2, rfl⟩ := List.getElem_of_mem hp
  have hi3 : i < (putC a (putC b (putC c d))).length := by rw [← idle_len]; exact hi2
  have fo := (idle_ok (putC_nn (us := a) hbcd)).2 i _ _ (List.getElem?_eq_getElem hi2) (List.getElem?_eq_getElem hi3)
  generalize (idleW (putC a (putC b (putC c d))))[i] = p at fo
  obtain ⟨q, _, _, _, _, dk, _⟩ := unpack_ok ha hbcd fo
  show stepW (regW (putC a b) c d) (regI a b (putC c d) p) = stepW (putW (putC a (putC b c)) d (putC (putC a b) c) d (regW a b c) (idleW d)) (stepW (regW a (putC b c) d) (packI a (putC (putC b c) d) (actI (regW b c d) (actO (idleW a) (unpackI a (putC b (putC c d)) p)))))
  obtain ⟨f1, u1⟩ := reg_fill ha hb hcd hab hbcd fo
  rw [step_reg f1, actOi dk]
  have d1 := actI_ok wb dk
  have f2 := pack_ok ha d1
  rw [step_reg f2]
  obtain ⟨f3, u3⟩ := reg_fill ha hbc hd habc hbcd' f2
  rw [unpack_pack ha d1] at u3
  rw [step_put habc hd wa idd f3, u3]
  have jk := join3_ok ha hbc hd d1
  rw [actIi (actO_ok wa jk), ← penta ha hb hc hd hab hbc hcd hbcd hbcd' dk]
  unfold regI
  show packI (putC (putC a b) c) d (join3 (putC a b) c d (unpackI (putC a b) (putC c d) (regI a b (putC c d) p))) = _
  rw [u1]
/-! ### regrouped ahead of ways and behind them -/
def splitG {α : Type} (ws : List Int) : List Int → List α → List (Int × List α)
  | [], _ => []
  | t :: r, xs => (t, xs.take (pick ws t).toNat) :: splitG ws r (xs.drop (pick ws t).toNat)
theorem splitG_map {α : Type} (ws : List Int) (f : Int → α) : ∀ (r xs : List Int), splitG ws r (xs.map f) = (splitI ws r xs).map fun p => (p.1, p.2.map f)
  | [], _ => rfl
  | t :: r, xs => by rw [splitG, splitI, List.map_cons, ← List.map_take, ← List.map_drop, splitG_map ws f r]
theorem splitG_join {α : Type} {ws : List Int} : ∀ {fs : List (Int × List α)}, (∀ p ∈ fs, ((p.2.length : Nat) : Int) = pick ws p.1) → splitG ws (fs.map Prod.fst) (fs.flatMap fun p => p.2) = fs
  | [], _ => rfl
  | (t, ds) :: fs, h => by
    have h1 : ((ds.length : Nat) : Int) = pick ws t := h _ List.mem_cons_self
    rw [List.map_cons, List.flatMap_cons, splitG]
    show (t, (ds ++ _).take (pick ws t).toNat) :: splitG ws (fs.map Prod.fst) ((ds ++ _).drop (pick ws t).toNat) = _
    rw [← h1, Int.toNat_natCast, List.take_left, List.drop_left, splitG_join fun p hp => h p (List.mem_cons_of_mem _ hp)]
theorem moved_core {a b c x y z : List Int} {n : Int} {v0 v1 v2 : List (Int × List Int)} {D : Int × List (Int × List Int)} (ha : Small a) (hb : Small b) (hc : Small c) (hy : Small y) (hz : Small z) (hbc : Small (putC b c)) (hab : Small (putC a b)) (w0 : WayOk a x v0) (w1 : WayOk b y v1) (w2 : WayOk c z v2) (h : DeepOk a (putC b c) n D) :
    join3 x y z (actI (putW b c y z v1 v2) (actO v0 D)) = actI v2 (actO (putW a b x y v0 v1) (join3 a b c D)) := by
  have dk : ∀ f ∈ D.2, DeepOk b c n (unpackI b c f) := fun f hf => by
    obtain ⟨_, _, _, _, _, dk, _⟩ := unpack_ok hb hc (h.2 f hf)
    exact dk
  have jk := join3_ok ha hb hc h
  have ff := (flat3_ok (a := a) hb hc h).1
  have fr : FillOk (b.length : Int) a (D.1, D.2.map fun f => (unpackI b c f).1) := by
    have e : ((flat3 b c D).1, (flat3 b c D).2.map Prod.fst) = (D.1, D.2.map fun f => (unpackI b c f).1) := by
      unfold flat3
      simp only [List.map_map]
      rfl
    rw [e] at ff
    exact ff
  have Ud : (splitI b (D.2.map fun f => (unpackI b c f).1) (iota (((join3 a b c D).2.length : Nat) : Int))).map (fun p => (p.1, p.2.map (pickP (join3 a b c D).2))) = D.2.map (unpackI b c) := by
    rw [← splitG_map, iota_pickP]
    have := splitG_join (ws := b) (fs := D.2.map (unpackI b c)) fun p hp => by
      obtain ⟨f, hf, rfl⟩ := List.mem_map.mp hp
      have := fill_pick (dk f hf).1
      rw [List.length_map] at this
      exact this
    rw [List.map_map, List.flatMap_map] at this
    exact this
  -- the plain filling of the tray that stands there
  have lenG : (putC a b)[(fnum (b.length : Int) a (D.1, D.2.map fun f => (unpackI b c f).1)).toNat]? = some (((join3 a b c D).2.length : Nat) : Int) := by
    have := jk.1.2.2.1
    rw [List.length_map] at this
    exact this
  have b0 := (fnum_bound (n := (b.length : Int)) (by omega) fr).1
  have gi := idle_at lenG
  rw [show (((fnum (b.length : Int) a (D.1, D.2.map fun f => (unpackI b c f).1)).toNat : Nat) : Int) = fnum (b.length : Int) a (D.1, D.2.map fun f => (unpackI b c f).1) by omega] at gi
  have fo := (idle_ok (fun x hx => (hab x hx).1)).2 _ _ _ gi lenG
  obtain ⟨_, _, _, _, _, ek, _⟩ := unpack_ok ha hb fo
  have eE : unpackI a b (fnum (b.length : Int) a (D.1, D.2.map fun f => (unpackI b c f).1), iota (((join3 a b c D).2.length : Nat) : Int)) = (D.1, splitI b (D.2.map fun f => (unpackI b c f).1) (iota (((join3 a b c D).2.length : Nat) : Int))) := unpackI_some (p := (fnum (b.length : Int) a (D.1, D.2.map fun f => (unpackI b c f).1), iota (((join3 a b c D).2.length : Nat) : Int))) (q := (D.1, D.2.map fun f => (unpackI b c f).1)) (fill_at ha fr)
  rw [eE] at ek
  have go : (putW a b x y v0 v1)[(join3 a b c D).1.toNat]? = some (packI x y (actI v1 (actO v0 (D.1, splitI b (D.2.map fun f => (unpackI b c f).1) (iota (((join3 a b c D).2.length : Nat) : Int)))))) := by
    unfold putW
    rw [List.getElem?_map, show (join3 a b c D).1 = fnum (b.length : Int) a (D.1, D.2.map fun f => (unpackI b c f).1) from rfl, gi]
    show some (packI x y (actI v1 (actO v0 (unpackI a b _)))) = _
    rw [eE]
  rw [actO_some go]
  obtain ⟨r, gr, frr⟩ := deep_at w0 h
  rw [actO_some gr]
  have gr2 : v0[((D.1, splitI b (D.2.map fun f => (unpackI b c f).1) (iota (((join3 a b c D).2.length : Nat) : Int))) : Int × List (Int × List Int)).1.toNat]? = some r := gr
  rw [actO_some gr2]
  generalize hG : (join3 a b c D).2 = G at *
  generalize hes : splitI b (D.2.map fun f => (unpackI b c f).1) (iota (G.length : Int)) = es at *
  have esl : es.length = D.2.length := by
    have := congrArg List.length Ud
    rw [List.length_map, List.length_map] at this
    exact this
  -- each of them
  have each : ∀ k ∈ r.2, unpackI y z (stepW (putW b c y z v1 v2) (pickP D.2 k)) = ((stepW v1 (pickP es k)).1, ((stepW v1 (pickP es k)).2.map (pickP G)).map (stepW v2)) := fun k hk => by
    obtain ⟨k0, k1⟩ := frr.2.2.2 k hk
    have gD := pickP_in (fs := D.2) k0 k1
    have gE := pickP_in (fs := es) k0 (by omega)
    have fm := List.mem_of_getElem? gD
    have em := List.mem_of_getElem? gE
    have q := congrArg (fun l => l[k.toNat]?) Ud
    simp only [List.getElem?_map] at q
    rw [gD, gE] at q
    have q : ((pickP es k).1, (pickP es k).2.map (pickP G)) = unpackI b c (pickP D.2 k) := Option.some.inj q
    generalize pickP D.2 k = f at gD fm q
    generalize pickP es k = e at gE em q
    have ke := ek.2 e em
    obtain ⟨s, hs, fs⟩ := way_at w1 ke
    rw [step_put hb hc w1 w2 (h.2 f fm), unpack_pack hy (actI_ok w2 (actO_ok w1 (dk f fm)))]
    rw [← q, actO_some (D := (e.1, e.2.map (pickP G))) hs, step_some hs]
    refine Prod.ext rfl ?_
    show (s.2.map (pickP (e.2.map (pickP G)))).map (stepW v2) = ((s.2.map (pick e.2)).map (pickP G)).map (stepW v2)
    congr 1
    rw [List.map_map]
    refine List.map_congr_left fun j hj => ?_
    obtain ⟨j0, j1⟩ := fs.2.2.2 j hj
    have p1 := pick_in (r := e.2) j0 j1
    have p2 := pickP_in (fs := e.2.map (pickP G)) j0 (by rw [List.length_map]; exact j1)
    rw [List.getElem?_map, p1] at p2
    exact (Option.some.inj p2).symm
  unfold join3 actI packI
  simp only [List.map_map, List.flatMap_map, List.map_flatMap]
  refine Prod.ext ?_ ?_
  · show fnum _ _ (r.1, _) = fnum _ _ (r.1, _)
    congr 2
    exact List.map_congr_left fun k hk => congrArg Prod.fst (each k hk)
  · have : ∀ l : List Int, (∀ k ∈ l, k ∈ r.2) → (l.flatMap fun k => (unpackI y z (stepW (putW b c y z v1 v2) (pickP D.2 k))).2) = l.flatMap fun k => ((stepW v1 (pickP es k)).2.map (pickP G)).map (stepW v2) := fun l => by
      induction l with
      | nil => intro _; rfl
      | cons f l ih =>
        intro hm
        rw [List.flatMap_cons, List.flatMap_cons, ih fun g hg => hm g (List.mem_cons_of_mem _ hg), each f (hm f List.mem_cons_self)]
    have t := this r.2 fun _ hk => hk
    simp only [List.map_map] at t
    exact t
theorem moved {a b c x y z : List Int} {v0 v1 v2 : List (Int × List Int)} (ha : Small a) (hb : Small b) (hc : Small c) (hx : Small x) (hy : Small y) (hz : Small z) (hbc : Small (putC b c)) (hab : Small (putC a b)) (hyz : Small (putC y z)) (hxy : Small (putC x y)) (w0 : WayOk a x v0) (w1 : WayOk b y v1) (w2 : WayOk c z v2) :
    thenW (putW a (putC b c) x (putC y z) v0 (putW b c y z v1 v2)) (regW x y z) = thenW (regW a b c) (putW (putC a b) c (putC x y) z (putW a b x y v0 v1) v2) := by
  have wi := put_ok hb hc hy w1 w2
  have wo := put_ok ha hb hx w0 w1
  unfold thenW
  conv => lhs; arg 2; unfold putW
  conv => rhs; arg 2; unfold regW
  rw [List.map_map, List.map_map]
  refine List.map_congr_left fun p hp => ?_
  obtain ⟨i, hi2, rfl⟩ := List.getElem_of_mem hp
  have hi3 : i < (putC a (putC b c)).length := by rw [← idle_len]; exact hi2
  have fo := (idle_ok (putC_nn (us := a) hbc)).2 i _ _ (List.getElem?_eq_getElem hi2) (List.getElem?_eq_getElem hi3)
  generalize (idleW (putC a (putC b c)))[i] = p at fo
  obtain ⟨q, _, _, _, _, dk, _⟩ := unpack_ok ha hbc fo
  show stepW (regW x y z) (packI x (putC y z) (actI (putW b c y z v1 v2) (actO v0 (unpackI a (putC b c) p)))) = stepW (putW (putC a b) c (putC x y) z (putW a b x y v0 v1) v2) (regI a b c p)
  have d2 := actI_ok wi (actO_ok w0 dk)
  have f2 := pack_ok hx d2
  obtain ⟨f3, u3⟩ := reg_fill ha hb hc hab hbc fo
  rw [step_reg f2, step_put hab hc wo w2 f3, u3]
  unfold regI
  rw [unpack_pack hx d2, moved_core ha hb hc hy hz hbc hab w0 w1 w2 dk]
/-! ### one well in the middle -/
theorem reg_one {a b : List Int} (ha : Small a) (hb : Small b) : regW a [1] b = idleW (putC a b) := by
  have eL := putC_oneL b
  have eR := putC_oneR (ws := a) fun x hx => (ha x hx).1
  have s1 : Small [1] := fun x hx => by rw [List.mem_singleton.mp hx]; decide
  unfold regW
  rw [eL]
  refine (List.map_congr_left fun p hp => ?_).trans (List.map_id _)
  obtain ⟨i, hi2, rfl⟩ := List.getElem_of_mem hp
  have hi3 : i < (putC a b).length := by rw [← idle_len]; exact hi2
  have fo := (idle_ok (putC_nn (us := a) hb)).2 i _ _ (List.getElem?_eq_getElem hi2) (List.getElem?_eq_getElem hi3)
  generalize (idleW (putC a b))[i] = p at fo
  obtain ⟨q, _, _, _, _, dk, pk⟩ := unpack_ok ha hb fo
  unfold regI
  rw [eR, eL]
  show packI a b (join3 a [1] b (unpackI a b p)) = p
  have u : ∀ f ∈ (unpackI a b p).2, unpackI [1] b f = (0, [f]) := fun f hf => by
    have ff := dk.2 f hf
    have f1 : FillOk (b.length : Int) [1] (0, [f.1]) := ⟨Int.le_refl 0, Int.zero_lt_one, rfl, fun y hy => by rw [List.mem_singleton.mp hy]; exact ⟨ff.1, ff.2.1⟩⟩
    have g := fill_at s1 f1
    have n0 : fnum (b.length : Int) [1] (0, [f.1]) = f.1 := by
      show cnt _ (([1] : List Int).take 0) + dig _ [f.1] = _
      simp [cnt, dig]
    rw [n0] at g
    rw [unpackI_some g]
    have lf := fill_pick ff
    have : f.2.take (pick b f.1).toNat = f.2 := by rw [← lf, Int.toNat_natCast, List.take_length]
    show ((0 : Int), splitI b [f.1] f.2) = _
    rw [splitI, this]
    rfl
  have j : join3 a [1] b (unpackI a b p) = unpackI a b p := by
    unfold join3
    have m1 : ((unpackI a b p).2.map fun f => (unpackI [1] b f).1) = List.replicate (unpackI a b p).2.length 0 := by
      rw [List.eq_replicate_iff]
      refine ⟨List.length_map .., fun y hy => ?_⟩
      obtain ⟨f, hf, rfl⟩ := List.mem_map.mp hy
      rw [u f hf]
    have m2 : ∀ l : List (Int × List Int), (∀ f ∈ l, f ∈ (unpackI a b p).2) → (l.flatMap fun f => (unpackI [1] b f).2) = l := fun l => by
      induction l with
      | nil => intro _; rfl
      | cons f l ih =>
        intro hm
        rw [List.flatMap_cons, ih fun g hg => hm g (List.mem_cons_of_mem _ hg), u f (hm f List.mem_cons_self)]
        rfl
    rw [m1, m2 _ fun _ h => h]
    refine Prod.ext ?_ rfl
    show cnt (1 : Int) (a.take (unpackI a b p).1.toNat) + dig 1 (List.replicate (unpackI a b p).2.length 0) = _
    have c1 : ∀ l : List Int, cnt 1 l = (l.length : Int) := fun l => by
      induction l with
      | nil => rfl
      | cons y l ih =>
        have : cnt 1 (y :: l) = 1 ^ y.toNat + cnt 1 l := rfl
        rw [this, ih, Int.one_pow, List.length_cons]
        omega
    have d1 : ∀ m : Nat, dig 1 (List.replicate m 0) = 0 := fun m => by
      have b : Below 1 (List.replicate m 0) := fun y hy => by rw [List.eq_of_mem_replicate hy]; decide
      have := dig_bound (n := 1) b
      rw [Int.one_pow] at this
      omega
    have := dk.1.1
    have := dk.1.2.1
    rw [c1, d1, List.length_take]
    have h0 : (0 : Int) ≤ (unpackI a b p).1 := dk.1.1
    have h1 : (unpackI a b p).1 < (a.length : Int) := dk.1.2.1
    omega
  rw [j, pk]
noncomputable def F_marked : List PyData → Rs PyData := fn 4 (sRet (eTup (aCons (eVar 1) (aCons (eCB tupleD (aCons (eL (lLc [3] (iRg (rg1D (e2 ixD (eVar 0) (eVar 1)))) (gN 3) tY (eIf (tB' (e2 inD (eVar 3) (eVar 2))) (eC (.int 1)) (eC (.int 0))))) aNil)) aNil))))
noncomputable def F_filled_from : List PyData → Rs PyData := fn 5 (sSeq (sFor (iEnumD (eVar 0)) (gT 2 (gsC (gN 2) (gsC (gT 2 (gsC (gN 3) (gsC (gN 4) gsN))) gsN)))
      (sIf (tAnd' (tB' (e2 eqD (eVar 3) (eVar 1))) (tB' (e2 eqD (e1 lenSetD (eVar 4)) (eCB lenD (aCons (eVar 4) aNil)))))
      (sRet (eVar 2))
      sNil))
      (sRet (eC .none)))
noncomputable def F_onto : List PyData → Rs PyData := fn 6 (sSeq (sSetO 3 aNil)
      (sSeq (sFor (iRg (rg1D (eCB lenD (aCons (eVar 1) aNil)))) (gN 4)
      (sSeq (sSet 5 (eCall F_filled_from (aCons (eVar 2) (aCons (eVar 4) aNil))))
      (sSeq (sIf (tB' (e2 isD (eVar 5) (eC .none)))
      (sRet (eTup (aCons (eC (.str "missed")) (aCons (eCall F_plain (aCons (eVar 1) (aCons (eVar 4) aNil))) aNil))))
      sNil)
      (sMut 3 appM (aCons (eVar 5) aNil)))))
      (sRet (eTup (aCons (eC (.str "onto")) (aCons (eCB tupleD (aCons (eVarR 3) aNil)) aNil))))))
noncomputable def F_one_to_one : List PyData → Rs PyData := fn 9 (sSeq (sSetD 2)
      (sSeq (sFor (iEnumD (eVar 1)) (gT 2 (gsC (gN 3) (gsC (gT 2 (gsC (gN 4) (gsC (gN 5) gsN))) gsN)))
      (sSeq (sSet 6 (eCall F_marked (aCons (eVar 0) (aCons (eVar 3) (aCons (eTup aNil) aNil)))))
      (sSeq (sIf (tB' (e2 inDctD (eVar 4) (eVarR 2)))
      (sRet (eTup (aCons (eC (.str "merged")) (aCons (eCall F_marked (aCons (eVar 0) (aCons (e2 getDctD (eVarR 2) (eVar 4)) (aCons (eTup aNil) aNil)))) (aCons (eVar 6) aNil)))))
      sNil)
      (sSeq (sPutD 2 (eVar 3) (eVar 4))
      (sSeq (sSet 7 (eL (lLc [8] (iRg (rg1D (e2 ixD (eVar 0) (eVar 3)))) (gN 8) (tB' (e2 notInD (eVar 8) (eVar 5))) (eVar 8))))
      (sIf (tTr (eVar 7))
      (sRet (eTup (aCons (eC (.str "merged")) (aCons (eVar 6) (aCons (eCall F_marked (aCons (eVar 0) (aCons (eVar 3) (aCons (eVar 7) aNil)))) aNil)))))
      sNil))))))
      (sRet (eTup (aCons (eC (.str "one to one")) aNil)))))
noncomputable def F_is_filling : List PyData → Rs PyData := fn 2 (sRet (eAnd (eCall F_is_crate (aCons (eVar 0) aNil)) (eCall F_fits (aCons (eVar 0) (aCons (eVar 1) aNil)))))
@[simp] theorem z_setD (ρ : Ev) (i : Nat) : sSetD i ρ = .ok (.nx (ρ.set i (some (true, dctD [])))) := rfl
@[simp] theorem q_inDct (kvs : List (Int × Int)) (k : Int) : inDctD (.int k) (dctD kvs) = .ok (.bool (lookI kvs k).isSome) := by
  unfold inDctD
  rw [asDct_of]
theorem q_getDct {kvs : List (Int × Int)} {k v : Int} (h : lookI kvs k = some v) : getDctD (dctD kvs) (.int k) = .ok (.int v) := by
  unfold getDctD
  rw [asDct_of]
  show (match lookI kvs k with | some v => Rs.ok (PyData.int v) | none => Rs.bad) = _
  rw [h]
theorem q_putD {ρ : Ev} {i : Nat} {fv fk : Ev → Rs PyData} {kvs : List (Int × Int)} {k v : Int} (h : ρ[i]? = some (some (true, dctD kvs))) (e1 : fv ρ = .ok (.int v)) (e2 : fk ρ = .ok (.int k)) (hl : kvs.length < lim) : sPutD i fv fk ρ = .ok (.nx (ρ.set i (some (true, dctD (putI kvs k v))))) := by
  unfold sPutD
  rw [e1, Rs.bind_ok, h]
  simp only [asDct_of, e2, Rs.bind_ok]
  exact if_pos hl
theorem q_getD {ρ : Ev} {i : Nat} {fk fz : Ev → Rs PyData} {kvs : List (Int × Int)} {b : Bool} {k z : Int} (h : ρ[i]? = some (some (b, dctD kvs))) (e1 : fk ρ = .ok (.int k)) (e2 : fz ρ = .ok (.int z)) : eGetD i fk fz ρ = .ok (.int ((lookI kvs k).getD z)) := by
  unfold eGetD
  rw [h]
  simp only [asDct_of, e1, e2, Rs.bind_ok]
theorem q_lenSet {ns : List Int} (h : ns.length ≤ 4000) : lenSetD (cr ns) = .ok (.int ((dedI ns).length : Nat)) := by
  show (match asInts (ns.map PyData.int) with
    | some ns => @ite _ (ns.length ≤ 4000) (Classical.propDecidable _) (Rs.ok (PyData.int ((dedI ns).length : Nat))) .bad
    | none => .bad) = _
  rw [asInts_map]
  exact if_pos h
theorem look_put (kvs : List (Int × Int)) (k v j : Int) : lookI (putI kvs k v) j = if j = k then some v else lookI kvs j := by
  unfold putI
  by_cases h : (kvs.any fun p => decide (p.1 = k)) = true
  · rw [if_pos h]
    induction kvs with
    | nil => simp at h
    | cons p r ih =>
      unfold lookI at ih ⊢
      rw [List.map_cons, List.find?_cons, List.find?_cons]
      by_cases hp : p.1 = k
      · rw [if_pos hp]
        by_cases hj : j = k
        · rw [if_pos hj]
          have : decide ((p.1, v).1 = j) = true := decide_eq_true (by rw [hj]; exact hp)
          rw [this]
          rfl
        · rw [if_neg hj]
          have e : decide (p.1 = j) = false := decide_eq_false fun z => hj (by rw [← z]; exact hp)
          have : decide ((p.1, v).1 = j) = false := e
          rw [this]
          by_cases hr : (r.any fun p => decide (p.1 = k)) = true
          · have := ih hr
            rw [if_neg hj] at this
            exact this
          · have nk : r.map (fun p => if p.1 = k then (p.1, v) else p) = r := by
              refine (List.map_congr_left fun q hq => ?_).trans (List.map_id _)
              exact if_neg fun z => hr (List.any_eq_true.mpr ⟨q, hq, decide_eq_true z⟩)
            rw [nk]
      · rw [if_neg hp]
        have hr : (r.any fun p => decide (p.1 = k)) = true := by
          rw [List.any_cons, decide_eq_false hp, Bool.false_or] at h
          exact h
        have := ih hr
        by_cases hj : p.1 = j
        · rw [decide_eq_true hj]
          have hjk : ¬ j = k := fun z => hp (by rw [← z]; exact hj)
          rw [if_neg hjk]
        · rw [decide_eq_false hj]
          exact this
  · rw [if_neg h]
    unfold lookI
    rw [List.find?_append]
    by_cases hj : j = k
    · rw [if_pos hj, hj]
      have : kvs.find? (fun p => decide (p.1 = k)) = none := List.find?_eq_none.mpr fun q hq z => h (List.any_eq_true.mpr ⟨q, hq, z⟩)
      rw [this]
      simp
    · rw [if_neg hj]
      have : ([(k, v)] : List (Int × Int)).find? (fun p => decide (p.1 = j)) = none := by simp [Ne.symm hj]
      rw [this]
      simp
theorem put_len (kvs : List (Int × Int)) (k v : Int) : (putI kvs k v).length ≤ kvs.length + 1 := by
  unfold putI
  split
  · rw [List.length_map]; omega
  · rw [List.length_append]; simp
theorem inB_tup (n : Bool) (m : Int) (l : List Int) : inB n (.int m) (cr l) = .ok (.bool (n ^^ decide (m ∈ l))) := by
  have e : ((l.map PyData.int).any fun z => PyData.eqv z (.int m)) = decide (m ∈ l) := by
    induction l with
    | nil => simp
    | cons a l ih =>
      rw [List.map_cons, List.any_cons, ih]
      by_cases h : a = m
      · subst h; simp [PyData.eqv]
      · have h' : ¬ m = a := fun z => h z.symm
        simp [PyData.eqv, h, h']
  show (@ite _ _ (Classical.propDecidable _) _ _) = _
  rw [if_pos (by simp [flatDt]), e]
theorem in_tupI (m : Int) (l : List Int) : inD (.int m) (cr l) = .ok (.bool (decide (m ∈ l))) := by
  have := inB_tup false m l
  rw [Bool.false_xor] at this
  exact this
theorem notIn_tupI (m : Int) (l : List Int) : notInD (.int m) (cr l) = .ok (.bool (!decide (m ∈ l))) := by
  have := inB_tup true m l
  rw [Bool.true_xor] at this
  exact this
/-- the filling that marked tells -/
def markF (i x : Int) (l : List Int) : Int × List Int := (i, (iota x).map fun y => if y ∈ l then 1 else 0)
theorem marked_ok {ws : List Int} {i : Nat} {x : Int} {l : List Int} {L : PyData} (g : ws[i]? = some x) (x0 : 0 ≤ x) (x1 : x ≤ 10000) (hL : L = cr l ∨ L = .list (l.map PyData.int)) : F_marked [cr ws, .int (i : Int), L] = .ok (dPair (markF (i : Int) x l)) := by
  have ix : ixD (cr ws) (.int (i : Int)) = .ok (.int x) := q_ixT (at_get (by rw [List.getElem?_map, g]; rfl))
  have iL : ∀ m : Int, inD (.int m) L = .ok (.bool (decide (m ∈ l))) := fun m => by
    rcases hL with rfl | rfl
    · exact in_tupI m l
    · exact in_ints m l
  unfold F_marked
  refine fn_E (ρ := [some (false, cr ws), some (false, .int (i : Int)), some (false, L), none]) rfl ?_
  refine ret_R (d := dPair (markF (i : Int) x l)) ?_ rfl
  simp [ix, rgOk0 x0 (show x ≤ 16777216 by omega), rgD0, -List.map_map]
  rw [lc_mapE (enc := PyData.int) (out := PyData.int) (h := fun y : Int => if y ∈ l then (1 : Int) else 0) (xs := iota x)]
  rotate_left
  · intro y hy
    by_cases h : y ∈ l
    · simp [iL, h]
    · simp [iL, h]
  rw [cap_le (by simp [lim_eq, iota_len]; omega)]
  simp [-List.map_map, markF, dPair]
/-! ### onto -/
def Fills (p : Int × List Int) (t : Int) : Prop := p.1 = t ∧ p.2.Nodup
def OntoW (us : List Int) (wy : List (Int × List Int)) : Prop := ∀ t : Int, 0 ≤ t → t < (us.length : Int) → ∃ p ∈ wy, Fills p t
theorem filled_from {wy : List (Int × List Int)} {t : Int} (h60 : ∀ p ∈ wy, p.2.length ≤ 4000) : (∃ (s : Nat) (p : Int × List Int), F_filled_from [dWay wy, .int t] = .ok (.int (s : Int)) ∧ wy[s]? = some p ∧ Fills p t) ∨ (F_filled_from [dWay wy, .int t] = .ok .none ∧ ∀ p ∈ wy, ¬ Fills p t) := by
  have tst : ∀ (p : Int × List Int) (i : Nat) (ρ : Ev), p ∈ wy → ρ = [some (false, dWay wy), some (false, .int t), some (false, .int (i : Int)), some (false, .int p.1), some (false, cr p.2)] → (tAnd' (tB' (e2 eqD (eVar 3) (eVar 1))) (tB' (e2 eqD (e1 lenSetD (eVar 4)) (eCB lenD (aCons (eVar 4) aNil))))) ρ = .ok (decide (p.1 = t) && decide ((dedI p.2).length = p.2.length)) := fun p i ρ hp hρ => by
    subst hρ
    have ls := q_lenSet (h60 p hp)
    by_cases h1 : p.1 = t
    · simp [h1, ls]
      by_cases h2 : (dedI p.2).length = p.2.length
      · simp [h2]
      · have h3 : ¬ ((dedI p.2).length : Int) = (p.2.length : Int) := fun z => h2 (by omega)
        simp [h2, h3]
    · simp [h1]
  have main := for_or (g := gT 2 (gsC (gN 2) (gsC (gT 2 (gsC (gN 3) (gsC (gN 4) gsN))) gsN))) (b := sIf (tAnd' (tB' (e2 eqD (eVar 3) (eVar 1))) (tB' (e2 eqD (e1 lenSetD (eVar 4)) (eCB lenD (aCons (eVar 4) aNil))))) (sRet (eVar 2)) sNil)
    (P := fun i ρ => ∃ j2 j3 j4, (∀ (m : Nat) p, m < i → wy[m]? = some p → ¬ Fills p t) ∧ ρ = [some (false, dWay wy), some (false, .int t), j2, j3, j4]) (R := fun z => ∃ (s : Nat) (p : Int × List Int), z = .int (s : Int) ∧ wy[s]? = some p ∧ Fills p t) (ds := enumG 0 (wy.map dPair)) (k := 0) (ρ := [some (false, dWay wy), some (false, .int t), none, none, none]) ⟨none, none, none, fun m p hm => absurd hm (Nat.not_lt_zero _), rfl⟩ (fun i d ρ hd hP => by
      rw [Nat.zero_add] at hP ⊢
      obtain ⟨j2, j3, j4, hn, rfl⟩ := hP
      obtain ⟨p, hp, rfl⟩ := enum_get hd
      have pm := List.mem_of_getElem? hp
      have tt := tst p i _ pm rfl
      have gg : gT 2 (gsC (gN 2) (gsC (gT 2 (gsC (gN 3) (gsC (gN 4) gsN))) gsN)) (.tuple [.int (i : Int), dPair p]) [some (false, dWay wy), some (false, .int t), j2, j3, j4] = .ok [some (false, dWay wy), some (false, .int t), some (false, .int (i : Int)), some (false, .int p.1), some (false, cr p.2)] := by simp [dPair]
      by_cases hF : Fills p t
      · refine .inr ⟨.int (i : Int), ?_, i, p, rfl, hp, hF⟩
        unfold turn
        rw [gg, z_okE, z_sIf, tt, decide_eq_true hF.1, decide_eq_true (dedI_eq.mpr hF.2)]
        rfl
      · refine .inl ⟨[some (false, dWay wy), some (false, .int t), some (false, .int (i : Int)), some (false, .int p.1), some (false, cr p.2)], ?_, _, _, _, fun m p' hm hp' => ?_, rfl⟩
        · unfold turn
          rw [gg, z_okE, z_sIf, tt]
          have : (decide (p.1 = t) && decide ((dedI p.2).length = p.2.length)) = false := by
            by_cases h1 : p.1 = t
            · have h2 : ¬ (dedI p.2).length = p.2.length := fun z => hF ⟨h1, dedI_eq.mp z⟩
              rw [decide_eq_false h2, Bool.and_false]
            · rw [decide_eq_false h1, Bool.false_and]
          rw [this]
          rfl
        · by_cases hmi : m = i
          · subst hmi
            rw [hp] at hp'
            cases hp'
            exact hF
          · exact hn m p' (by omega) hp')
  have body : F_filled_from [dWay wy, .int t] = ((forGo (gT 2 (gsC (gN 2) (gsC (gT 2 (gsC (gN 3) (gsC (gN 4) gsN))) gsN))) (sIf (tAnd' (tB' (e2 eqD (eVar 3) (eVar 1))) (tB' (e2 eqD (e1 lenSetD (eVar 4)) (eCB lenD (aCons (eVar 4) aNil))))) (sRet (eVar 2)) sNil) (enumG 0 (wy.map dPair)) [some (false, dWay wy), some (false, .int t), none, none, none]).bind fun | .nx ρ' => .ok .none | .ret d => .ok d | _ => .bad) := by
    unfold F_filled_from
    simp [dWay, -z_sIf, -z_tAnd]
    congr 1
    funext o
    cases o <;> simp
  rcases main with ⟨ρ', e, j2, j3, j4, hn, _⟩ | ⟨z, e, s, p, rfl, hp, hF⟩
  · right
    rw [body, e]
    refine ⟨rfl, fun p hp => ?_⟩
    obtain ⟨m, hm⟩ := List.getElem?_of_mem hp
    have := (List.getElem?_eq_some_iff.mp hm).1
    exact hn m p (by rw [enumG_len, List.length_map]; omega) hm
  · left
    rw [body, e]
    exact ⟨s, p, rfl, hp, hF⟩
/-- a for that may return -/
theorem for_ROr {it : Ev → Rs (List PyData)} {g : PyData → Ev → Rs Ev} {b rest : Ev → Rs Out} {ρ : Ev} {ds : List PyData} {Φ : PyData → Prop} (hit : it ρ = .ok ds) (P : Nat → Ev → Prop) (R : PyData → Prop) (h0 : P 0 ρ) (hs : ∀ (i : Nat) d ρ, ds[i]? = some d → P i ρ → (∃ ρ', turn g b d ρ = .ok (.nx ρ') ∧ P (i + 1) ρ') ∨ (∃ z, turn g b d ρ = .ok (.ret z) ∧ R z)) (hk : ∀ ρ', P ds.length ρ' → Ret (rest ρ') Φ) (hr : ∀ z, R z → Φ z) : Ret (sSeq (sFor it g b) rest ρ) Φ := by
  rcases for_or (g := g) (b := b) P R (ds := ds) (k := 0) (ρ := ρ) h0 (fun i d ρ hd hP => by
    rw [Nat.zero_add] at hP ⊢
    exact hs i d ρ hd hP) with ⟨ρ', e, q⟩ | ⟨z, e, q⟩
  · rw [Nat.zero_add] at q
    exact seq_R (by rw [z_for, hit, bind_ok', e]) (hk ρ' q)
  · exact seq_Q (by rw [z_for, hit, bind_ok', e]) (hr z q)
/-- one turn, statement by statement, that may return -/
def Tor (r : Rs Out) (P : Ev → Prop) (R : PyData → Prop) : Prop := (∃ ρ', r = .ok (.nx ρ') ∧ P ρ') ∨ (∃ z, r = .ok (.ret z) ∧ R z)
theorem tor_turn {g : PyData → Ev → Rs Ev} {b : Ev → Rs Out} {d : PyData} {ρ ρ' : Ev} {P : Ev → Prop} {R : PyData → Prop} (h : g d ρ = .ok ρ') (k : Tor (b ρ') P R) : Tor (turn g b d ρ) P R := by
  unfold turn
  rw [h]
  exact k
theorem tor_seq {a b : Ev → Rs Out} {ρ ρ' : Ev} {P : Ev → Prop} {R : PyData → Prop} (h : a ρ = .ok (.nx ρ')) (k : Tor (b ρ') P R) : Tor (sSeq a b ρ) P R := by
  rw [z_seq, h]
  exact k
theorem tor_ret {a b : Ev → Rs Out} {ρ : Ev} {z : PyData} {P : Ev → Prop} {R : PyData → Prop} (h : a ρ = .ok (.ret z)) (k : R z) : Tor (sSeq a b ρ) P R := by
  rw [z_seq, h]
  exact .inr ⟨z, rfl, k⟩
theorem onto_ok {ws us : List Int} {wy : List (Int × List Int)} (hu : Small us) (hul : us.length ≤ 60) (hwl : wy.length ≤ 60) (h60 : ∀ p ∈ wy, p.2.length ≤ 4000) : ∃ d, F_onto [cr ws, cr us, dWay wy] = .ok d ∧ ((∃ ts : List Int, d = .tuple [.str "onto", cr ts] ∧ ts.length = us.length ∧ ∀ (m : Nat) s, ts[m]? = some s → 0 ≤ s ∧ ∃ p, wy[s.toNat]? = some p ∧ Fills p (m : Int)) ∨ (∃ (t : Nat) (x : Int), d = .tuple [.str "missed", dPair ((t : Int), iota x)] ∧ us[t]? = some x ∧ ∀ p ∈ wy, ¬ Fills p (t : Int))) := by
  have ln : lenD [cr us] = .ok (.int (us.length : Int)) := by show Rs.ok (PyData.int ((us.map PyData.int).length : Int)) = _; rw [List.length_map]
  unfold F_onto
  refine fn_R (ρ := [some (false, cr ws), some (false, cr us), some (false, dWay wy), none, none, none]) rfl ?_
  refine seq_R (ρ' := [some (false, cr ws), some (false, cr us), some (false, dWay wy), some (true, .list []), none, none]) (by simp) ?_
  refine for_ROr (ds := (iota (us.length : Int)).map PyData.int) (by simp [ln, rgOk0 (show (0 : Int) ≤ (us.length : Int) by omega) (show (us.length : Int) ≤ 16777216 by omega), rgD0]) (fun i ρ => ∃ (ts : List Int) (j4 j5 : Option (Bool × PyData)), ts.length = i ∧ (∀ (m : Nat) s, ts[m]? = some s → 0 ≤ s ∧ ∃ p, wy[s.toNat]? = some p ∧ Fills p (m : Int)) ∧ ρ = [some (false, cr ws), some (false, cr us), some (false, dWay wy), some (true, .list (ts.map PyData.int)), j4, j5]) (fun z => ∃ (t : Nat) (x : Int), z = .tuple [.str "missed", dPair ((t : Int), iota x)] ∧ us[t]? = some x ∧ ∀ p ∈ wy, ¬ Fills p (t : Int)) ⟨[], none, none, rfl, fun m s h => (by simp at h), rfl⟩ ?_ ?_ (fun z h => .inr h)
  · intro i d ρ hd ⟨ts, j4, j5, tl, hts, hρ⟩
    subst hρ
    obtain ⟨k, hk, rfl⟩ := map_get' hd
    have hi : i < us.length := by have := (List.getElem?_eq_some_iff.mp hk).1; rw [iota_len] at this; omega
    rw [iota_get (by omega)] at hk
    cases hk
    refine tor_turn (ρ' := [some (false, cr ws), some (false, cr us), some (false, dWay wy), some (true, .list (ts.map PyData.int)), some (false, .int (i : Int)), j5]) (by simp) ?_
    rcases filled_from (wy := wy) (t := (i : Int)) h60 with ⟨s, p, e, hp, hF⟩ | ⟨e, hN⟩
    · refine tor_seq (ρ' := [some (false, cr ws), some (false, cr us), some (false, dWay wy), some (true, .list (ts.map PyData.int)), some (false, .int (i : Int)), some (false, .int (s : Int))]) (by simp [e]) ?_
      refine tor_seq (ρ' := [some (false, cr ws), some (false, cr us), some (false, dWay wy), some (true, .list (ts.map PyData.int)), some (false, .int (i : Int)), some (false, .int (s : Int))]) (by simp) ?_
      have ap : appM (ts.map PyData.int) [.int (s : Int)] = .ok ((ts ++ [(s : Int)]).map PyData.int) := by
        rw [q_app (by rw [List.length_map, lim_eq]; omega), List.map_append]
        rfl
      refine .inl ⟨[some (false, cr ws), some (false, cr us), some (false, dWay wy), some (true, .list ((ts ++ [(s : Int)]).map PyData.int)), some (false, .int (i : Int)), some (false, .int (s : Int))], by simp [ap, -List.map_append], _, _, _, by simp [tl], fun m s' hs' => ?_, rfl⟩
      rcases get_snoc hs' with ⟨_, h⟩ | ⟨h1, h2⟩
      · exact hts m s' h
      · subst h2
        rw [tl] at h1
        subst h1
        exact ⟨by omega, p, by rw [Int.toNat_natCast]; exact hp, hF⟩
    · refine tor_seq (ρ' := [some (false, cr ws), some (false, cr us), some (false, dWay wy), some (true, .list (ts.map PyData.int)), some (false, .int (i : Int)), some (false, .none)]) (by simp [e]) ?_
      have gu : us[i]? = some us[i] := List.getElem?_eq_getElem hi
      have pb := hu _ (List.mem_of_getElem? gu)
      have pl := plain_cr gu pb.1 (by omega)
      exact tor_ret (z := .tuple [.str "missed", dPair ((i : Int), iota us[i])]) (by simp [pl]) ⟨i, _, rfl, gu, hN⟩
  · intro ρ' ⟨ts, j4, j5, tl, hts, hρ⟩
    subst hρ
    rw [List.length_map, iota_len, Int.toNat_natCast] at tl
    exact ret_R (d := .tuple [.str "onto", cr ts]) (by simp) (.inl ⟨ts, rfl, tl, hts⟩)
theorem onto_iff {ws us : List Int} {wy : List (Int × List Int)} (hu : Small us) (hul : us.length ≤ 60) (hwl : wy.length ≤ 60) (h60 : ∀ p ∈ wy, p.2.length ≤ 4000) : ∃ d e, F_onto [cr ws, cr us, dWay wy] = .ok (.tuple [.str d, e]) ∧ ((d = "onto" ∧ OntoW us wy) ∨ (d = "missed" ∧ ¬ OntoW us wy)) := by
  obtain ⟨d, e, h⟩ := onto_ok (ws := ws) hu hul hwl h60
  rcases h with ⟨ts, rfl, tl, hts⟩ | ⟨t, x, rfl, hx, hN⟩
  · refine ⟨_, _, e, .inl ⟨rfl, fun t t0 t1 => ?_⟩⟩
    have hlt : t.toNat < ts.length := by omega
    obtain ⟨_, p, hp, hF⟩ := hts t.toNat _ (List.getElem?_eq_getElem hlt)
    rw [show ((t.toNat : Nat) : Int) = t by omega] at hF
    exact ⟨p, List.mem_of_getElem? hp, hF⟩
  · refine ⟨_, _, e, .inr ⟨rfl, fun h => ?_⟩⟩
    have := (List.getElem?_eq_some_iff.mp hx).1
    obtain ⟨p, hp, hF⟩ := h (t : Int) (by omega) (by omega)
    exact hN p hp hF
/-! ### one to one -/
structure SingleW (ws : List Int) (wy : List (Int × List Int)) (i : Nat) : Prop where
  t : ∀ (m n : Nat) p q, m < n → n < i → wy[m]? = some p → wy[n]? = some q → p.1 ≠ q.1
  w : ∀ (m : Nat) p x, m < i → wy[m]? = some p → ws[m]? = some x → ∀ y, 0 ≤ y → y < x → y ∈ p.2
structure Srcs (wy : List (Int × List Int)) (i : Nat) (kvs : List (Int × Int)) : Prop where
  l : kvs.length ≤ i
  a : ∀ k s, lookI kvs k = some s → ∃ (m : Nat) (p : Int × List Int), s = (m : Int) ∧ m < i ∧ wy[m]? = some p ∧ p.1 = k
  b : ∀ (m : Nat) p, m < i → wy[m]? = some p → (lookI kvs p.1).isSome = true
def Merged (ws : List Int) (wy : List (Int × List Int)) (z : PyData) : Prop :=
  (∃ (s i : Nat) (p q : Int × List Int) (xs x : Int), s < i ∧ wy[s]? = some p ∧ wy[i]? = some q ∧ p.1 = q.1 ∧ ws[s]? = some xs ∧ ws[i]? = some x ∧ z = .tuple [.str "merged", dPair (markF (s : Int) xs []), dPair (markF (i : Int) x [])]) ∨
  (∃ (i : Nat) (q : Int × List Int) (x : Int), wy[i]? = some q ∧ ws[i]? = some x ∧ ((iota x).filter fun y => decide (y ∉ q.2)) ≠ [] ∧ z = .tuple [.str "merged", dPair (markF (i : Int) x []), dPair (markF (i : Int) x ((iota x).filter fun y => decide (y ∉ q.2)))])
theorem one_to_one_ok {ws us : List Int} {wy : List (Int × List Int)} (hw : Small ws) (hwl : ws.length ≤ 60) (ok : WayOk ws us wy) (h60 : ∀ p ∈ wy, p.2.length ≤ 4000) : ∃ d, F_one_to_one [cr ws, dWay wy] = .ok d ∧ ((d = .tuple [.str "one to one"] ∧ SingleW ws wy wy.length) ∨ Merged ws wy d) := by
  have wl := ok.1
  unfold F_one_to_one
  refine fn_R (ρ := [some (false, cr ws), some (false, dWay wy), none, none, none, none, none, none, none]) rfl ?_
  refine seq_R (ρ' := [some (false, cr ws), some (false, dWay wy), some (true, dctD []), none, none, none, none, none, none]) (by simp) ?_
  refine for_ROr (ds := enumG 0 (wy.map dPair)) (by simp [dWay]) (fun i ρ => ∃ (kvs : List (Int × Int)) (j3 j4 j5 j6 j7 j8 : Option (Bool × PyData)), Srcs wy i kvs ∧ SingleW ws wy i ∧ ρ = [some (false, cr ws), some (false, dWay wy), some (true, dctD kvs), j3, j4, j5, j6, j7, j8]) (Merged ws wy) ⟨[], none, none, none, none, none, none, ⟨Nat.le_refl _, fun k s h => (by cases h), fun m p h => absurd h (Nat.not_lt_zero _)⟩, ⟨fun m n p q _ h => absurd h (Nat.not_lt_zero _), fun m p x h => absurd h (Nat.not_lt_zero _)⟩, rfl⟩ ?_ ?_ (fun z h => .inr h)
  · intro i d ρ hd ⟨kvs, j3, j4, j5, j6, j7, j8, sr, sg, hρ⟩
    subst hρ
    obtain ⟨p, hp, rfl⟩ := enum_get hd
    have hi : i < wy.length := (List.getElem?_eq_some_iff.mp hp).1
    have gx : ws[i]? = some (ws[i]'(by omega)) := List.getElem?_eq_getElem (by omega)
    generalize ws[i]'(by omega) = x at gx
    obtain ⟨x0, x1⟩ := hw x (List.mem_of_getElem? gx)
    have mk := marked_ok (l := []) (L := .tuple []) gx x0 (by omega) (.inl rfl)
    refine tor_turn (ρ' := [some (false, cr ws), some (false, dWay wy), some (true, dctD kvs), some (false, .int (i : Int)), some (false, .int p.1), some (false, cr p.2), j6, j7, j8]) (by simp [dPair]) ?_
    refine tor_seq (ρ' := [some (false, cr ws), some (false, dWay wy), some (true, dctD kvs), some (false, .int (i : Int)), some (false, .int p.1), some (false, cr p.2), some (false, dPair (markF (i : Int) x [])), j7, j8]) (by simp [mk]) ?_
    cases hL : lookI kvs p.1 with
    | some s =>
      obtain ⟨m, p', rfl, hm, hp', he⟩ := sr.a _ _ hL
      have gm : ws[m]? = some (ws[m]'(by omega)) := List.getElem?_eq_getElem (by omega)
      generalize ws[m]'(by omega) = xs at gm
      obtain ⟨y0, y1⟩ := hw xs (List.mem_of_getElem? gm)
      have mk' := marked_ok (l := []) (L := .tuple []) gm y0 (by omega) (.inl rfl)
      have gd := q_getDct hL
      refine tor_ret (z := .tuple [.str "merged", dPair (markF (m : Int) xs []), dPair (markF (i : Int) x [])]) ?_ (.inl ⟨m, i, p', p, xs, x, hm, hp', hp, he, gm, gx, rfl⟩)
      have q1 := q_inDct kvs p.1
      rw [hL] at q1
      simp [q1, gd, mk', -q_inDct]
    | none =>
      have q1 := q_inDct kvs p.1
      rw [hL] at q1
      refine tor_seq (ρ' := [some (false, cr ws), some (false, dWay wy), some (true, dctD kvs), some (false, .int (i : Int)), some (false, .int p.1), some (false, cr p.2), some (false, dPair (markF (i : Int) x [])), j7, j8]) (by simp [q1, -q_inDct]) ?_
      have pt := q_putD (ρ := [some (false, cr ws), some (false, dWay wy), some (true, dctD kvs), some (false, .int (i : Int)), some (false, .int p.1), some (false, cr p.2), some (false, dPair (markF (i : Int) x [])), j7, j8]) (i := 2) (fv := eVar 3) (fk := eVar 4) (kvs := kvs) (k := p.1) (v := (i : Int)) rfl rfl rfl (by have := sr.l; rw [lim_eq]; omega)
      refine tor_seq (ρ' := [some (false, cr ws), some (false, dWay wy), some (true, dctD (putI kvs p.1 (i : Int))), some (false, .int (i : Int)), some (false, .int p.1), some (false, cr p.2), some (false, dPair (markF (i : Int) x [])), j7, j8]) (by rw [pt]; rfl) ?_
      have ix : ixD (cr ws) (.int (i : Int)) = .ok (.int x) := q_ixT (at_get (by rw [List.getElem?_map, gx]; rfl))
      refine tor_seq (ρ' := [some (false, cr ws), some (false, dWay wy), some (true, dctD (putI kvs p.1 (i : Int))), some (false, .int (i : Int)), some (false, .int p.1), some (false, cr p.2), some (false, dPair (markF (i : Int) x [])), some (false, .list (((iota x).filter fun y => decide (y ∉ p.2)).map PyData.int)), j8]) ?_ ?_
      · simp [ix, rgOk0 x0 (show x ≤ 16777216 by omega), rgD0, -List.map_map]
        rw [lc_flatE (enc := PyData.int) (h := fun y : Int => if decide (y ∉ p.2) then [PyData.int y] else []) (xs := iota x)]
        rotate_left
        · intro y hy
          have n1 := notIn_tupI y p.2
          by_cases h : y ∈ p.2
          · simp [n1, h]
          · simp [n1, h]
        rw [flat_filter (fun y => decide (y ∉ p.2))]
        rw [cap_le (by have := List.length_filter_le (fun y => decide (y ∉ p.2)) (iota x); rw [iota_len] at this; rw [List.length_map, lim_eq]; omega)]
        simp [-List.map_map]
      by_cases hE : ((iota x).filter fun y => decide (y ∉ p.2)) = []
      · rw [hE]
        refine .inl ⟨[some (false, cr ws), some (false, dWay wy), some (true, dctD (putI kvs p.1 (i : Int))), some (false, .int (i : Int)), some (false, .int p.1), some (false, cr p.2), some (false, dPair (markF (i : Int) x [])), some (false, .list (([] : List Int).map PyData.int)), j8], by simp [truD], putI kvs p.1 (i : Int), _, _, _, _, _, _, ⟨?_, fun k s hk => ?_, fun m q hm hq => ?_⟩, ⟨fun m n p' q hmn hn hp' hq => ?_, fun m q x' hm hq hx' y y0 y1 => ?_⟩, rfl⟩
        · have := put_len kvs p.1 (i : Int)
          have := sr.l
          omega
        · rw [look_put] at hk
          by_cases hkp : k = p.1
          · rw [if_pos hkp] at hk
            cases hk
            exact ⟨i, p, rfl, by omega, hp, hkp.symm⟩
          · rw [if_neg hkp] at hk
            obtain ⟨m, p', e1, e2, e3, e4⟩ := sr.a k s hk
            exact ⟨m, p', e1, by omega, e3, e4⟩
        · rw [look_put]
          by_cases hkp : q.1 = p.1
          · rw [if_pos hkp]
            rfl
          · rw [if_neg hkp]
            by_cases hmi : m = i
            · subst hmi
              rw [hp] at hq
              cases hq
              exact absurd rfl hkp
            · exact sr.b m q (by omega) hq
        · by_cases hni : n = i
          · subst hni
            rw [hp] at hq
            cases hq
            intro z
            have := sr.b m p' (by omega) hp'
            rw [z, hL] at this
            cases this
          · exact sg.t m n p' q hmn (by omega) hp' hq
        · by_cases hmi : m = i
          · subst hmi
            rw [hp] at hq
            cases hq
            rw [gx] at hx'
            cases hx'
            by_cases hy : y ∈ p.2
            · exact hy
            · have : y ∈ (iota x).filter fun y => decide (y ∉ p.2) := List.mem_filter.mpr ⟨iota_mem.mpr ⟨y0, y1⟩, decide_eq_true hy⟩
              rw [hE] at this
              cases this
          · exact sg.w m q x' (by omega) hq hx' y y0 y1
      · have mk' := marked_ok (l := (iota x).filter fun y => decide (y ∉ p.2)) (L := .list (((iota x).filter fun y => decide (y ∉ p.2)).map PyData.int)) gx x0 (by omega) (.inr rfl)
        refine .inr ⟨.tuple [.str "merged", dPair (markF (i : Int) x []), dPair (markF (i : Int) x ((iota x).filter fun y => decide (y ∉ p.2)))], ?_, .inr ⟨i, p, x, hp, gx, hE, rfl⟩⟩
        generalize ((iota x).filter fun y => decide (y ∉ p.2)) = lf at hE mk'
        have tr : truD (.list (lf.map PyData.int)) = .ok true := by
          cases lf with
          | nil => exact absurd rfl hE
          | cons y l => rfl
        simp [tr, mk', -List.map_map]
  · intro ρ' ⟨kvs, j3, j4, j5, j6, j7, j8, sr, sg, hρ⟩
    subst hρ
    rw [enumG_len, List.length_map] at sg
    exact ret_R (d := .tuple [.str "one to one"]) (by simp) (.inl ⟨rfl, sg⟩)
theorem merged_not {ws : List Int} {wy : List (Int × List Int)} {z : PyData} (h : Merged ws wy z) : ¬ SingleW ws wy wy.length ∧ ∃ d e, z = .tuple [.str "merged", d, e] := by
  rcases h with ⟨s, i, p, q, xs, x, hs, hp, hq, e, _, _, rfl⟩ | ⟨i, q, x, hq, hx, hE, rfl⟩
  · exact ⟨fun g => g.t s i p q hs (List.getElem?_eq_some_iff.mp hq).1 hp hq e, _, _, rfl⟩
  · refine ⟨fun g => hE (List.filter_eq_nil_iff.mpr fun y hy => ?_), _, _, rfl⟩
    obtain ⟨y0, y1⟩ := iota_below _ y hy
    have := g.w i q x (List.getElem?_eq_some_iff.mp hq).1 hq hx y y0 y1
    simp [this]
noncomputable def F_parting : List PyData → Rs PyData := fn 9 (sSeq (sFor (iEnumZipD (aCons (eVar 1) (aCons (eVar 2) aNil))) (gT 2 (gsC (gN 3) (gsC (gT 2 (gsC (gN 4) (gsC (gN 5) gsN))) gsN)))
      (sIf (tB' (e2 neD (eVar 4) (eVar 5)))
      (sSeq (sSet 6 (eL (lLc [7, 8] (iZipD (aCons (e2 ixD (eVar 4) (eC (.int 1))) (aCons (e2 ixD (eVar 5) (eC (.int 1))) aNil))) (gT 2 (gsC (gN 7) (gsC (gN 8) gsN))) (tB' (e2 neD (eVar 7) (eVar 8))) (eVar 7))))
      (sRet (eCall F_marked (aCons (eVar 0) (aCons (eVar 3) (aCons (eSl (eVar 6) eNoPart (ePart (eC (.int 1)))) aNil))))))
      sNil))
      (sRet (eC .none)))
@[simp] theorem z_enumZip (ρ : Ev) (f : Ev → Rs (List PyData)) : iEnumZipD f ρ = (f ρ).bind fun | [.tuple as, .tuple bs] => .ok (enumG 0 (zipD as bs)) | _ => .bad := rfl
/-! ### ways that are drawn: none only where no way leads -/
theorem way_snoc' {us vs : List Int} {wy : List (Int × List Int)} {i : Nat} {m : Int} {r : Int × List Int} (hw : WayOk (us.take i) vs wy) (hm : us[i]? = some m) (fr : FillOk m vs r) : WayOk (us.take (i + 1)) vs (wy ++ [r]) := by
  have hi : i < us.length := (List.getElem?_eq_some_iff.mp hm).1
  have wl : wy.length = i := by rw [hw.1, List.length_take]; omega
  refine ⟨by rw [List.length_append, List.length_take, wl, List.length_singleton]; omega, fun j p x hp hx => ?_⟩
  have jl := (List.getElem?_eq_some_iff.mp hx).1
  rw [List.length_take] at jl
  rw [List.getElem?_take_of_lt (by omega)] at hx
  rcases get_snoc hp with ⟨hj, hp⟩ | ⟨hj, rfl⟩
  · exact hw.2 j p x hp (by rw [List.getElem?_take_of_lt (by omega)]; exact hx)
  · rw [hj, wl, hm] at hx
    cases hx
    exact fr
theorem law_way_any {c : Int} {us vs : List Int} {old : List (Int × List Int)} (c0 : 0 ≤ c) (hu : Small us) (hul : us.length ≤ 60) (hvs : Small vs) (hvl : vs.length ≤ 60) (ok : WayOk us vs old) : ∃ wy, F_law_way [.int c, cr us, cr vs] = .ok (dWay wy) ∧ WayOk us vs wy := by
  rcases law_way (c := c) c0 hu hul hvs hvl with k | h
  · exfalso
    have ln : lenD [cr vs] = .ok (.int (vs.length : Int)) := by show Rs.ok (PyData.int ((vs.map PyData.int).length : Int)) = _; rw [List.length_map]
    suffices h : ∃ d, F_law_way [.int c, cr us, cr vs] = .ok d ∧ d ≠ .none by
      obtain ⟨d, h1, h2⟩ := h
      rw [k] at h1
      cases h1
      exact h2 rfl
    unfold F_law_way
    refine fn_R (ρ := [some (false, .int c), some (false, cr us), some (false, cr vs), none, none, none, none, none, none, none]) rfl ?_
    refine seq_R (ρ' := [some (false, .int c), some (false, cr us), some (false, cr vs), some (true, .list []), none, none, none, none, none, none]) (by simp) ?_
    refine for_R (ds := enumG 0 (us.map PyData.int)) (by simp) (fun i ρ => ∃ (ds : List PyData) (j4 j5 j6 j7 j8 j9 : Option (Bool × PyData)), ds.length = i ∧ ρ = [some (false, .int c), some (false, cr us), some (false, cr vs), some (true, .list ds), j4, j5, j6, j7, j8, j9]) ⟨[], none, none, none, none, none, none, rfl, rfl⟩ ?_ ?_
    · intro i d ρ hd ⟨ds, j4, j5, j6, j7, j8, j9, dl, hρ⟩
      subst hρ
      obtain ⟨m, hm, rfl⟩ := enum_get hd
      have hi : i < us.length := (List.getElem?_eq_some_iff.mp hm).1
      obtain ⟨m0, m1⟩ := hu m (List.mem_of_getElem? hm)
      have a1 : mulD (.int 11) (.int (i : Int)) = .ok (.int (11 * (i : Int))) := q_mul (wide_small (by decide) (by decide)) (wide_small (by omega) (by omega))
      have a2 := q_div (i := c) (j := 3 + 11 * (i : Int)) (by omega) (wide_small (by omega) (by omega))
      have n0 : 0 ≤ c / (3 + 11 * (i : Int)) := Int.ediv_nonneg c0 (by omega)
      generalize c / (3 + 11 * (i : Int)) = near at a2 n0
      refine stp_turn (ρ' := [some (false, .int c), some (false, cr us), some (false, cr vs), some (true, .list ds), some (false, .int (i : Int)), some (false, .int m), j6, j7, j8, j9]) (by simp) ?_
      refine stp_seq (ρ' := [some (false, .int c), some (false, cr us), some (false, cr vs), some (true, .list ds), some (false, .int (i : Int)), some (false, .int m), some (false, .int near), j7, j8, j9]) (by simp [a1, a2]) ?_
      refine stp_seq (ρ' := [some (false, .int c), some (false, cr us), some (false, cr vs), some (true, .list ds), some (false, .int (i : Int)), some (false, .int m), some (false, .int near), some (false, .list (((iota (vs.length : Int)).filter fun x => decide (0 < m) || decide (pick vs x = 0)).map PyData.int)), j8, j9]) ?_ ?_
      · simp [ln, rgOk0 (show (0 : Int) ≤ (vs.length : Int) by omega) (show (vs.length : Int) ≤ 16777216 by omega), rgD0, -List.map_map]
        rw [lc_flatE (enc := PyData.int) (h := fun x : Int => if (decide (0 < m) || decide (pick vs x = 0)) then [PyData.int x] else []) (xs := iota (vs.length : Int))]
        rotate_left
        · intro x hx
          obtain ⟨x0, x1⟩ := iota_below _ x hx
          have hix := ix_cr (ws := vs) x0 x1
          by_cases h1 : 0 < m
          · simp [h1]
          · by_cases h2 : pick vs x = 0
            · simp [h1, hix, h2]
            · simp [h1, hix, h2]
        rw [flat_filter (fun x => decide (0 < m) || decide (pick vs x = 0))]
        rw [cap_le (by have := List.length_filter_le (fun x => decide (0 < m) || decide (pick vs x = 0)) (iota (vs.length : Int)); rw [iota_len] at this; rw [List.length_map, lim_eq]; omega)]
        simp [-List.map_map]
      have gl := List.length_filter_le (fun x => decide (0 < m) || decide (pick vs x = 0)) (iota (vs.length : Int))
      rw [iota_len] at gl
      have gm : ∀ y ∈ (iota (vs.length : Int)).filter (fun x => decide (0 < m) || decide (pick vs x = 0)), 0 ≤ y ∧ y < (vs.length : Int) ∧ (0 < m ∨ pick vs y = 0) := fun y hy => by
        obtain ⟨h1, h2⟩ := List.mem_filter.mp hy
        rw [Bool.or_eq_true, decide_eq_true_eq, decide_eq_true_eq] at h2
        exact ⟨(iota_below _ y h1).1, (iota_below _ y h1).2, h2⟩
      have ne : ((iota (vs.length : Int)).filter fun x => decide (0 < m) || decide (pick vs x = 0)) ≠ [] := fun z => by
        have wl := ok.1
        have gp : old[i]? = some (old[i]'(by omega)) := List.getElem?_eq_getElem _
        have fo : FillOk m vs (old[i]'(by omega)) := ok.2 i _ m gp hm
        have hmem : (old[i]'(by omega)).1 ∈ (iota (vs.length : Int)).filter fun x => decide (0 < m) || decide (pick vs x = 0) := by
          refine List.mem_filter.mpr ⟨iota_mem.mpr ⟨fo.1, fo.2.1⟩, ?_⟩
          rw [Bool.or_eq_true, decide_eq_true_eq, decide_eq_true_eq]
          by_cases h : 0 < m
          · exact .inl h
          · right
            have fp := fill_pick fo
            rw [← fp]
            cases hr : (old[i]'(by omega)).2 with
            | nil => rfl
            | cons y l =>
              have := fo.2.2.2 y (by rw [hr]; exact List.mem_cons_self)
              omega
        rw [z] at hmem
        cases hmem
      generalize ((iota (vs.length : Int)).filter fun x => decide (0 < m) || decide (pick vs x = 0)) = gs at gl gm ne
      have en := eq_nil gs
      have ne' : gs.isEmpty = false := by
        cases gs with
        | nil => exact absurd rfl ne
        | cons _ _ => rfl
      rw [ne'] at en
      have gp : 0 < gs.length := List.length_pos_iff.mpr ne
      refine stp_seq (ρ' := [some (false, .int c), some (false, cr us), some (false, cr vs), some (true, .list ds), some (false, .int (i : Int)), some (false, .int m), some (false, .int near), some (false, .list (gs.map PyData.int)), j8, j9]) (by simp [en]) ?_
      have a3 := q_mod (i := near) (j := (gs.length : Int)) (by omega)
      have t0 : 0 ≤ near % (gs.length : Int) := Int.emod_nonneg _ (by omega)
      have t1 : near % (gs.length : Int) < (gs.length : Int) := Int.emod_lt_of_pos _ (by omega)
      generalize near % (gs.length : Int) = t at a3 t0 t1
      have hg : gs[t.toNat]? = some gs[t.toNat] := List.getElem?_eq_getElem (by omega)
      generalize gs[t.toNat] = y at hg
      have ix1 : ixD (.list (gs.map PyData.int)) (.int t) = .ok (.int y) := q_ixL (at_int t0 (by rw [List.getElem?_map, hg]; rfl))
      obtain ⟨y0, y1, ym⟩ := gm y (List.mem_of_getElem? hg)
      have ix2 := ix_cr (ws := vs) y0 y1
      have yv := hvs _ (List.mem_of_getElem? (pick_in y0 y1))
      refine stp_seq (ρ' := [some (false, .int c), some (false, cr us), some (false, cr vs), some (true, .list ds), some (false, .int (i : Int)), some (false, .int m), some (false, .int near), some (false, .list (gs.map PyData.int)), some (false, .int y), j9]) (by simp [a3, ix1]) ?_
      have lk := lc_mapE (enc := PyData.int) (out := PyData.int) (h := fun k : Int => near / (5 + 7 * k) % m) (xs := iota (pick vs y)) (bd := bd1 (gN 9) tY (e2 modD (e2 divD (eVar 6) (e2 addD (eC (.int 5)) (e2 mulD (eC (.int 7)) (eVar 9)))) (eVar 5)) [some (false, .int c), some (false, cr us), some (false, cr vs), some (true, .list ds), some (false, .int (i : Int)), some (false, .int m), some (false, .int near), some (false, .list (gs.map PyData.int)), some (false, .int y), none]) fun k hk => by
        obtain ⟨k0, k1⟩ := iota_below _ k hk
        have b1 : mulD (.int 7) (.int k) = .ok (.int (7 * k)) := q_mul (wide_small (by decide) (by decide)) (wide_small (by omega) (by omega))
        have b2 := q_div (i := near) (j := 5 + 7 * k) (by omega) (wide_small (by omega) (by omega))
        have b3 := q_mod (i := near / (5 + 7 * k)) (j := m) (by omega)
        simp [b1, b2, b3]
      have cl : cap (Rs.ok (((iota (pick vs y)).map fun k : Int => near / (5 + 7 * k) % m).map PyData.int)) = _ := cap_le (by rw [List.length_map, List.length_map, iota_len, lim_eq]; omega)
      have ap : appM ds [.tuple [.int y, .tuple (((iota (pick vs y)).map fun k : Int => near / (5 + 7 * k) % m).map PyData.int)]] = .ok (ds ++ [.tuple [.int y, .tuple (((iota (pick vs y)).map fun k : Int => near / (5 + 7 * k) % m).map PyData.int)]]) := q_app (by rw [lim_eq]; omega)
      refine stp_of (ρ := [some (false, .int c), some (false, cr us), some (false, cr vs), some (true, .list (ds ++ [.tuple [.int y, .tuple (((iota (pick vs y)).map fun k : Int => near / (5 + 7 * k) % m).map PyData.int)]])), some (false, .int (i : Int)), some (false, .int m), some (false, .int near), some (false, .list (gs.map PyData.int)), some (false, .int y), j9]) ?_ ⟨_, _, _, _, _, _, _, by rw [List.length_append, dl]; rfl, rfl⟩
      simp only [z_mut, z_aCons, z_aNil, z_tup, z_var, z_CB, z_L, z_lLc, z_iRg, z_rg1, z_2, bind_ok', List.getElem?_cons_zero, List.getElem?_cons_succ, ix2, if_pos (rgOk0 yv.1 (show pick vs y ≤ 16777216 by omega)), rgD0, z_wipe1, z_wipe0, List.set_cons_succ, List.set_cons_zero, lk, cl, q_tupL, ap]
    · intro ρ' ⟨ds, j4, j5, j6, j7, j8, j9, dl, hρ⟩
      subst hρ
      exact ret_R (d := .tuple ds) (by simp) (fun z => by cases z)
  · exact h
/-! ### parting -/
def ppart (p q : Int × List Int) : List Int := (((p.2.zip q.2).filter fun z => decide (z.1 ≠ z.2)).map Prod.fst).take 1
theorem neD_pair (p q : Int × List Int) : neD (dPair p) (dPair q) = .ok (.bool (!decide (p = q))) := by
  rw [q_ne ((gd_pair (n := 0) p).sh (by decide)) ((gd_pair (n := 0) q).sh (by decide)), eqv_pair]
theorem eqD_pair (p q : Int × List Int) : eqD (dPair p) (dPair q) = .ok (.bool (decide (p = q))) := by
  rw [q_eq ((gd_pair (n := 0) p).sh (by decide)) ((gd_pair (n := 0) q).sh (by decide)), eqv_pair]
theorem parting_ok {ws us : List Int} {v w : List (Int × List Int)} (hw : Small ws) (hu : Small us) (hv' : WayOk ws us v) (hw' : WayOk ws us w) : ∃ d, F_parting [cr ws, dWay v, dWay w] = .ok d ∧ ((d = .none ∧ v = w) ∨ (∃ (i : Nat) (p q : Int × List Int) (x : Int), v[i]? = some p ∧ w[i]? = some q ∧ ws[i]? = some x ∧ p ≠ q ∧ d = dPair (markF (i : Int) x (ppart p q)))) := by
  have l1 := hv'.1
  have l2 := hw'.1
  unfold F_parting
  refine fn_R (ρ := [some (false, cr ws), some (false, dWay v), some (false, dWay w), none, none, none, none, none, none]) rfl ?_
  refine for_ROr (ds := enumG 0 (zipD (v.map dPair) (w.map dPair))) (by simp [dWay]) (fun i ρ => ∃ j3 j4 j5 j6 j7 j8, (∀ m : Nat, m < i → v[m]? = w[m]?) ∧ ρ = [some (false, cr ws), some (false, dWay v), some (false, dWay w), j3, j4, j5, j6, j7, j8]) (fun z => ∃ (i : Nat) (p q : Int × List Int) (x : Int), v[i]? = some p ∧ w[i]? = some q ∧ ws[i]? = some x ∧ p ≠ q ∧ z = dPair (markF (i : Int) x (ppart p q))) ⟨none, none, none, none, none, none, fun m h => absurd h (Nat.not_lt_zero _), rfl⟩ ?_ ?_ (fun z h => .inr h)
  · intro i d ρ hd ⟨j3, j4, j5, j6, j7, j8, hs, hρ⟩
    subst hρ
    obtain ⟨e0, he, rfl⟩ := enumG_get hd
    obtain ⟨a, b, ha, hb, rfl⟩ := zipD_get he
    obtain ⟨p, hp, rfl⟩ := map_get' ha
    obtain ⟨q, hq, rfl⟩ := map_get' hb
    rw [Nat.zero_add]
    have hi : i < v.length := (List.getElem?_eq_some_iff.mp hp).1
    have gx : ws[i]? = some (ws[i]'(by omega)) := List.getElem?_eq_getElem _
    generalize ws[i]'(by omega) = x at gx
    obtain ⟨x0, x1⟩ := hw x (List.mem_of_getElem? gx)
    have fp : FillOk x us p := hv'.2 i p x hp gx
    have fq : FillOk x us q := hw'.2 i q x hq gx
    refine tor_turn (ρ' := [some (false, cr ws), some (false, dWay v), some (false, dWay w), some (false, .int (i : Int)), some (false, dPair p), some (false, dPair q), j6, j7, j8]) (by simp) ?_
    have nd := neD_pair p q
    by_cases hpq : p = q
    · refine .inl ⟨[some (false, cr ws), some (false, dWay v), some (false, dWay w), some (false, .int (i : Int)), some (false, dPair p), some (false, dPair q), j6, j7, j8], by rw [decide_eq_true hpq] at nd; simp [nd], _, _, _, _, _, _, fun m hm => ?_, rfl⟩
      by_cases hmi : m = i
      · rw [hmi, hp, hq, hpq]
      · exact hs m (by omega)
    · rw [decide_eq_false hpq] at nd
      have k1 : ∀ r : Int × List Int, ixD (dPair r) (.int 1) = .ok (cr r.2) := fun _ => rfl
      have p12 : p.2.length ≤ 12 := by have := hu _ (List.mem_of_getElem? fp.2.2.1); omega
      have zl : ((p.2.zip q.2).filter fun z => decide (z.1 ≠ z.2)).length ≤ 12 := by
        have := List.length_filter_le (fun z : Int × Int => decide (z.1 ≠ z.2)) (p.2.zip q.2)
        rw [List.length_zip] at this
        omega
      refine .inr ⟨dPair (markF (i : Int) x (ppart p q)), ?_, i, p, q, x, hp, hq, gx, hpq, rfl⟩
      rw [z_sIf]
      have tt : (tB' (e2 neD (eVar 4) (eVar 5))) [some (false, cr ws), some (false, dWay v), some (false, dWay w), some (false, .int (i : Int)), some (false, dPair p), some (false, dPair q), j6, j7, j8] = .ok true := by simp [nd]
      rw [tt, bind_ok', if_pos rfl]
      have st : (sSet 6 (eL (lLc [7, 8] (iZipD (aCons (e2 ixD (eVar 4) (eC (.int 1))) (aCons (e2 ixD (eVar 5) (eC (.int 1))) aNil))) (gT 2 (gsC (gN 7) (gsC (gN 8) gsN))) (tB' (e2 neD (eVar 7) (eVar 8))) (eVar 7)))) [some (false, cr ws), some (false, dWay v), some (false, dWay w), some (false, .int (i : Int)), some (false, dPair p), some (false, dPair q), j6, j7, j8] = .ok (.nx [some (false, cr ws), some (false, dWay v), some (false, dWay w), some (false, .int (i : Int)), some (false, dPair p), some (false, dPair q), some (false, .list ((((p.2.zip q.2).filter fun z => decide (z.1 ≠ z.2)).map Prod.fst).map PyData.int)), j7, j8]) := by
        simp [k1, zip_map, -List.map_map]
        rw [lc_flatE (enc := fun z : Int × Int => PyData.tuple [.int z.1, .int z.2]) (h := fun z : Int × Int => if decide (z.1 ≠ z.2) then [PyData.int z.1] else []) (xs := p.2.zip q.2)]
        rotate_left
        · intro z hz
          by_cases h : z.1 = z.2
          · simp [h]
          · simp [h]
        have ff : ∀ l : List (Int × Int), (l.flatMap fun z : Int × Int => if decide (z.1 ≠ z.2) then [PyData.int z.1] else []) = ((l.filter fun z => decide (z.1 ≠ z.2)).map Prod.fst).map PyData.int := fun l => by
          induction l with
          | nil => rfl
          | cons z l ih =>
            rw [List.flatMap_cons, ih, List.filter_cons]
            by_cases h : z.1 = z.2
            · simp [h]
            · simp [h]
        rw [ff, cap_le (by rw [List.length_map, List.length_map, lim_eq]; omega)]
        simp [-List.map_map]
      refine nx_seq st ?_
      have ct : cutD ((((p.2.zip q.2).filter fun z => decide (z.1 ≠ z.2)).map Prod.fst).map PyData.int) none (some 1) = (ppart p q).map PyData.int := by
        unfold ppart
        generalize ((p.2.zip q.2).filter fun z => decide (z.1 ≠ z.2)).map Prod.fst = l
        cases l with
        | nil => rfl
        | cons y l =>
          rw [cut_take (by decide) (by simp; omega), ← List.map_take]
          rfl
      have mk := marked_ok (l := ppart p q) (L := .list ((ppart p q).map PyData.int)) gx x0 (by omega) (.inr rfl)
      generalize ((p.2.zip q.2).filter fun z => decide (z.1 ≠ z.2)).map Prod.fst = Ls at ct ⊢
      simp [ct, mk, -List.map_map]
  · intro ρ' ⟨j3, j4, j5, j6, j7, j8, hs, hρ⟩
    subst hρ
    rw [enumG_len, zipD_len, List.length_map, List.length_map] at hs
    refine ret_R (d := .none) (by simp) (.inl ⟨rfl, List.ext_getElem? fun m => ?_⟩)
    by_cases hm : m < v.length
    · exact hs m (by omega)
    · rw [List.getElem?_eq_none (by omega), List.getElem?_eq_none (by omega)]
theorem mark_pick {i x : Int} {l : List Int} {y : Int} (y0 : 0 ≤ y) (y1 : y < x) : pick (markF i x l).2 y = if y ∈ l then 1 else 0 := by
  unfold pick markF
  rw [List.getD_eq_getElem?_getD]
  show (((iota x).map fun y => if y ∈ l then (1 : Int) else 0)[y.toNat]?).getD 0 = _
  rw [List.getElem?_map, iota_get (by omega)]
  show (if ((y.toNat : Nat) : Int) ∈ l then (1 : Int) else 0) = _
  rw [Int.toNat_of_nonneg y0]
/-- a filling that tells two pairs apart -/
theorem part_ne {us : List Int} {p q : Int × List Int} {i x : Int} (fp : FillOk x us p) (fq : FillOk x us q) (ne : p ≠ q) : (p.1, p.2.map (pick (markF i x (ppart p q)).2)) ≠ (q.1, q.2.map (pick (markF i x (ppart p q)).2)) := by
  intro z
  have e1 : p.1 = q.1 := (Prod.mk.inj z).1
  have e2 : p.2.map (pick (markF i x (ppart p q)).2) = q.2.map (pick (markF i x (ppart p q)).2) := (Prod.mk.inj z).2
  have ln : p.2.length = q.2.length := by
    have h1 := fp.2.2.1
    have h2 := fq.2.2.1
    rw [e1, h2] at h1
    have := Option.some.inj h1
    omega
  have ne2 : p.2 ≠ q.2 := fun h => ne (Prod.ext e1 h)
  -- the first place where they differ
  have key : ∀ (a b : List Int), a.length = b.length → a ≠ b → (∀ y ∈ a, 0 ≤ y ∧ y < x) → (∀ y ∈ b, 0 ≤ y ∧ y < x) → ∀ f : Int → Int, (∀ y, 0 ≤ y → y < x → f y = if y ∈ (((a.zip b).filter fun z => decide (z.1 ≠ z.2)).map Prod.fst).take 1 then 1 else 0) → a.map f ≠ b.map f := by
    intro a
    induction a with
    | nil =>
      intro b hl hn _ _ _ _
      cases b with
      | nil => exact absurd rfl hn
      | cons _ _ => simp at hl
    | cons s a ih =>
      intro b hl hn ha hb f hf h
      cases b with
      | nil => simp at hl
      | cons t b =>
        rw [List.map_cons, List.map_cons] at h
        obtain ⟨h1, h2⟩ := List.cons.inj h
        have hs := ha s List.mem_cons_self
        have ht := hb t List.mem_cons_self
        by_cases hst : s = t
        · subst hst
          refine ih b (by simpa using hl) (fun z => hn (by rw [z])) (fun y hy => ha y (List.mem_cons_of_mem _ hy)) (fun y hy => hb y (List.mem_cons_of_mem _ hy)) f (fun y y0 y1 => ?_) h2
          rw [hf y y0 y1, List.zip_cons_cons, List.filter_cons]
          simp
        · have e : (((s :: a).zip (t :: b)).filter fun z => decide (z.1 ≠ z.2)) = (s, t) :: ((a.zip b).filter fun z => decide (z.1 ≠ z.2)) := by
            rw [List.zip_cons_cons, List.filter_cons]
            simp [hst]
          have f1 := hf s hs.1 hs.2
          have f2 := hf t ht.1 ht.2
          rw [e] at f1 f2
          simp at f1 f2
          rw [if_neg (fun z => hst z.symm)] at f2
          rw [f1, f2] at h1
          exact absurd h1 (by decide)
  exact key p.2 q.2 ln ne2 fp.2.2.2 fq.2.2.2 _ (fun y y0 y1 => mark_pick y0 y1) e2
theorem mark_ok {ws : List Int} {i : Nat} {x : Int} {l : List Int} (gx : ws[i]? = some x) (x0 : 0 ≤ x) : FillOk 2 ws (markF (i : Int) x l) := by
  have hi := (List.getElem?_eq_some_iff.mp gx).1
  refine ⟨by show (0 : Int) ≤ (i : Int); omega, by show (i : Int) < _; omega, ?_, fun y hy => ?_⟩
  · show ws[((i : Int)).toNat]? = some ((((iota x).map fun y => if y ∈ l then (1 : Int) else 0).length : Nat) : Int)
    rw [Int.toNat_natCast, gx, List.length_map, iota_len, Int.toNat_of_nonneg x0]
  · obtain ⟨z, _, rfl⟩ := List.mem_map.mp (show y ∈ (iota x).map fun y => if y ∈ l then (1 : Int) else 0 from hy)
    split <;> omega
noncomputable def F_law_bent : List PyData → Rs PyData := fn 12 (sSeq (sSet 4 (e2 modD (eVar 0) (eCB lenD (aCons (eVar 3) aNil))))
      (sSeq (sAsg (e2 ixD (eVar 3) (eVar 4)) (gT 2 (gsC (gN 5) (gsC (gN 6) gsN))))
      (sSeq (sIf (tAnd' (tB' (e2 gtD (eCB lenD (aCons (eVar 6) aNil)) (eC (.int 0)))) (tB' (e2 gtD (e2 ixD (eVar 1) (eVar 4)) (eC (.int 1)))))
      (sSeq (sSet 7 (e2 modD (e2 divD (eVar 0) (eC (.int 7))) (eCB lenD (aCons (eVar 6) aNil))))
      (sSeq (sSet 8 (e2 modD (e2 addD (e2 addD (e2 ixD (eVar 6) (eVar 7)) (eC (.int 1))) (e2 modD (e2 divD (eVar 0) (eC (.int 50))) (e2 subD (e2 ixD (eVar 1) (eVar 4)) (eC (.int 1))))) (e2 ixD (eVar 1) (eVar 4))))
      (sSeq (sSet 9 (e2 addD (e2 addD (eSl (eVar 6) eNoPart (ePart (eVar 7))) (eTup (aCons (eVar 8) aNil))) (eSl (eVar 6) (ePart (e2 addD (eVar 7) (eC (.int 1)))) eNoPart)))
      (sRet (e2 addD (e2 addD (eSl (eVar 3) eNoPart (ePart (eVar 4))) (eTup (aCons (eTup (aCons (eVar 5) (aCons (eVar 9) aNil))) aNil))) (eSl (eVar 3) (ePart (e2 addD (eVar 4) (eC (.int 1)))) eNoPart))))))
      sNil)
      (sSeq (sSet 10 (eL (lLc [11] (iRg (rg1D (eCB lenD (aCons (eVar 2) aNil)))) (gN 11) (tB' (e2 eqD (e2 ixD (eVar 2) (eVar 11)) (eCB lenD (aCons (eVar 6) aNil)))) (eVar 11))))
      (sSeq (sSet 11 (e2 ixD (eVar 10) (e2 modD (e2 divD (eVar 0) (eC (.int 7))) (eCB lenD (aCons (eVar 10) aNil)))))
      (sRet (e2 addD (e2 addD (eSl (eVar 3) eNoPart (ePart (eVar 4))) (eTup (aCons (eTup (aCons (eVar 11) (aCons (eVar 6) aNil))) aNil))) (eSl (eVar 3) (ePart (e2 addD (eVar 4) (eC (.int 1)))) eNoPart))))))))
noncomputable def F_law_is_filling : List PyData → Rs PyData := fn 3 (sSeq (sIf (tOr' (tNot' (tB' (e1 (isiD "tuple") (eVar 1)))) (tOr' (tB' (e2 neD (eCB lenD (aCons (eVar 1) aNil)) (eC (.int 2)))) (tNot' (tB' (e1 (isiD "tuple") (e2 ixD (eVar 1) (eC (.int 1))))))))
      (sRet (eC (.bool false)))
      sNil)
      (sSeq (sIf (tOr' (tB' (e2 (inRgD true) (e2 ixD (eVar 1) (eC (.int 0))) (eCB lenD (aCons (eVar 0) aNil)))) (tB' (e2 neD (eCB lenD (aCons (e2 ixD (eVar 1) (eC (.int 1))) aNil)) (e2 ixD (eVar 0) (e2 ixD (eVar 1) (eC (.int 0)))))))
      (sRet (eC (.bool false)))
      sNil)
      (sSeq (sFor (iItems (e2 addD (eTup (aCons (e2 ixD (eVar 1) (eC (.int 0))) aNil)) (e2 ixD (eVar 1) (eC (.int 1))))) (gN 2)
      (sIf (tOr' (tNot' (tB' (e1 (isiD "int") (eVar 2)))) (tB' (e1 (isiD "bool") (eVar 2))))
      (sRet (eC (.bool false)))
      sNil))
      (sRet (e2 eqD (eL (lLc [2] (iItems (e2 ixD (eVar 1) (eC (.int 1)))) (gN 2) (tB' (e2 notInD (eVar 2) (eTup (aCons (eC (.int 0)) (aCons (eC (.int 1)) aNil))))) (eVar 2))) (eL aNil))))))
noncomputable def F_law_v8 : List PyData → Rs PyData := fn 8 (sSeq (sSet 1 (eCall F_law_crate (aCons (eCall F_law_cell (aCons (eVar 0) (aCons (eC (.int 0)) aNil))) (aCons (eC (.int 5)) (aCons (eC (.int 5)) aNil)))))
      (sSeq (sSet 2 (eCall F_law_crate (aCons (eCall F_law_cell (aCons (eVar 0) (aCons (eC (.int 1)) aNil))) (aCons (eC (.int 5)) (aCons (eC (.int 5)) aNil)))))
      (sSeq (sSet 3 (eCall F_law_way (aCons (eCall F_law_cell (aCons (eVar 0) (aCons (eC (.int 2)) aNil))) (aCons (eVar 1) (aCons (eVar 2) aNil)))))
      (sSeq (sIf (tB' (e2 isD (eVar 3) (eC .none)))
      (sRet (eC (.bool true)))
      sNil)
      (sSeq (sSet 4 (eCall F_law_way (aCons (eCall F_law_cell (aCons (eVar 0) (aCons (eC (.int 3)) aNil))) (aCons (eVar 1) (aCons (eVar 2) aNil)))))
      (sSeq (sIf (tAnd' (tB' (e2 gtD (e2 modD (eCall F_law_cell (aCons (eVar 0) (aCons (eC (.int 4)) aNil))) (eC (.int 3))) (eC (.int 0)))) (tB' (e2 gtD (eCB lenD (aCons (eVar 3) aNil)) (eC (.int 0)))))
      (sSet 4 (eCall F_law_bent (aCons (eCall F_law_cell (aCons (eVar 0) (aCons (eC (.int 3)) aNil))) (aCons (eVar 1) (aCons (eVar 2) (aCons (eVar 3) aNil))))))
      sNil)
      (sSeq (sFor (iItems (eTup (aCons (eVar 4) (aCons (eVar 3) aNil)))) (gN 5)
      (sSeq (sSet 6 (eTup (aCons (eVar 3) (aCons (eVar 5) aNil))))
      (sSeq (sSet 7 (eCall F_parting (aCons (eVar 1) (aCons (eVar 3) (aCons (eVar 5) aNil)))))
      (sSeq (sIf (tB' (e2 eqD (eVar 3) (eVar 5)))
      (sIf (tB' (e2 isNotD (eVar 7) (eC .none)))
      (sRet (eC (.bool false)))
      sNil)
      (sIf (tOr' (tNot' (tB' (eCall F_law_is_filling (aCons (eVar 1) (aCons (eVar 7) aNil))))) (tB' (e2 eqD (eCall F_law_turned (aCons (eVar 3) (aCons (eVar 7) aNil))) (eCall F_law_turned (aCons (eVar 5) (aCons (eVar 7) aNil))))))
      (sRet (eC (.bool false)))
      sNil))
      (sIf (tB' (e2 neD (eTup (aCons (eVar 3) (aCons (eVar 5) aNil))) (eVar 6)))
      (sRet (eC (.bool false)))
      sNil)))))
      (sRet (eC (.bool true))))))))))
def topS (i : Nat) : Stmt := PySem.Challenge.pw_traymap_k20_what_parts_two_ways.main.body.getD i (.Pass ⟨0, 0, 0, 0⟩)
abbrev s_marked : Stmt := topS 1
theorem sc_marked : FnScope ["crate", "tray", "wells", "well"] ["crate", "tray", "wells"] (defScope s_marked) := ⟨rfl, rfl, rfl, by decide +kernel, rfl, by decide +kernel, by decide +kernel⟩
abbrev s_parting : Stmt := topS 3
theorem sc_parting : FnScope ["one", "way", "other_way", "tray", "pair", "other_pair", "parted", "well", "other_well"] ["one", "way", "other_way"] (defScope s_parting) := ⟨rfl, rfl, rfl, by decide +kernel, rfl, by decide +kernel, by decide +kernel⟩
abbrev s__law_cell : Stmt := topS 5
theorem sc__law_cell : FnScope ["script", "k", "near"] ["script", "k"] (defScope s__law_cell) := ⟨rfl, rfl, rfl, by decide +kernel, rfl, by decide +kernel, by decide +kernel⟩
abbrev s__law_crate : Stmt := topS 6
theorem sc__law_crate : FnScope ["cell", "trays", "wells", "found", "k"] ["cell", "trays", "wells"] (defScope s__law_crate) := ⟨rfl, rfl, rfl, by decide +kernel, rfl, by decide +kernel, by decide +kernel⟩
abbrev s__law_way : Stmt := topS 7
theorem sc__law_way : FnScope ["cell", "one", "other", "found", "tray", "many", "near", "goals", "there", "k"] ["cell", "one", "other"] (defScope s__law_way) := ⟨rfl, rfl, rfl, by decide +kernel, rfl, by decide +kernel, by decide +kernel⟩
abbrev s__law_turned : Stmt := topS 8
theorem sc__law_turned : FnScope ["way", "filling", "there", "wells", "well"] ["way", "filling"] (defScope s__law_turned) := ⟨rfl, rfl, rfl, by decide +kernel, rfl, by decide +kernel, by decide +kernel⟩
abbrev s__law_bent : Stmt := topS 9
theorem sc__law_bent : FnScope ["cell", "one", "other", "way", "tray", "there", "wells", "at", "well", "new", "goals", "goal"] ["cell", "one", "other", "way"] (defScope s__law_bent) := ⟨rfl, rfl, rfl, by decide +kernel, rfl, by decide +kernel, by decide +kernel⟩
abbrev s__law_is_filling : Stmt := topS 10
theorem sc__law_is_filling : FnScope ["crate", "thing", "one"] ["crate", "thing"] (defScope s__law_is_filling) := ⟨rfl, rfl, rfl, by decide +kernel, rfl, by decide +kernel, by decide +kernel⟩
abbrev s_law : Stmt := topS 11
theorem sc_law : FnScope ["script", "one", "other", "way", "more", "two", "kept", "found"] ["script"] (defScope s_law) := ⟨rfl, rfl, rfl, by decide +kernel, rfl, by decide +kernel, by decide +kernel⟩
set_option maxHeartbeats 4000000 in
theorem fd_marked {G : Gx} {f : Addr} {fd : FuncData} (F : Fun G.K "marked" "marked" s_marked f fd) (b : Binds G.K fd ["crate", "tray", "wells"] []) (g : G.mg "marked" = some (.ref f)) (m_range : G.mg "range" = none) (m_tuple : G.mg "tuple" = none) : Fd G 1 "marked" 3 F_marked :=
  fd_mk (k := 0) (body := (sRet (eTup (aCons (eVar 1) (aCons (eCB tupleD (aCons (eL (lLc [3] (iRg (rg1D (e2 ixD (eVar 0) (eVar 1)))) (gN 3) tY (eIf (tB' (e2 inD (eVar 3) (eVar 2))) (eC (.int 1)) (eC (.int 0))))) aNil)) aNil))))) F sc_marked b g rfl rfl (dss_one (ds_ret (de_tup (da_cons (de_var 1) (da_cons (de_tuple m_tuple (da_cons (de_l (df_lc sc_marked.nd (blkOk_by (own := [("well", 3)]) (by dsimp only [Sx.at]; decide +kernel)) (di_w (di_rg1 m_range (de_ix (de_var 0) (de_var 1)))) (dx_name 3 sc_marked.nd) dts_nil (de_if (dt_cmp cmp_in (de_var 3) (de_var 2)) de_int de_int))) da_nil)) da_nil)))))
set_option maxHeartbeats 4000000 in
theorem fd_parting {G : Gx} {f : Addr} {fd : FuncData} (F : Fun G.K "parting" "parting" s_parting f fd) (b : Binds G.K fd ["one", "way", "other_way"] []) (g : G.mg "parting" = some (.ref f)) (h_marked : Fd G 1 "marked" 3 F_marked) (m_enumerate : G.mg "enumerate" = none) (m_zip : G.mg "zip" = none) : Fd G 2 "parting" 3 F_parting :=
  fd_mk (k := 1) (body := (sSeq (sFor (iEnumZipD (aCons (eVar 1) (aCons (eVar 2) aNil))) (gT 2 (gsC (gN 3) (gsC (gT 2 (gsC (gN 4) (gsC (gN 5) gsN))) gsN)))
      (sIf (tB' (e2 neD (eVar 4) (eVar 5)))
      (sSeq (sSet 6 (eL (lLc [7, 8] (iZipD (aCons (e2 ixD (eVar 4) (eC (.int 1))) (aCons (e2 ixD (eVar 5) (eC (.int 1))) aNil))) (gT 2 (gsC (gN 7) (gsC (gN 8) gsN))) (tB' (e2 neD (eVar 7) (eVar 8))) (eVar 7))))
      (sRet (eCall F_marked (aCons (eVar 0) (aCons (eVar 3) (aCons (eSl (eVar 6) eNoPart (ePart (eC (.int 1)))) aNil))))))
      sNil))
      (sRet (eC .none)))) F sc_parting b g rfl rfl (dss_cons (ds_for (vs := [3, 4, 5]) (di_enumZip m_enumerate m_zip (da_cons (de_var 1) (da_cons (de_var 2) da_nil))) (dx_tup (dxs_cons (dx_name 3 sc_parting.nd) (dxs_cons (dx_tup (dxs_cons (dx_name 4 sc_parting.nd) (dxs_cons (dx_name 5 sc_parting.nd) dxs_nil))) dxs_nil)))
      (dss_one (ds_if (dt_cmp cmp_ne (de_var 4) (de_var 5))
      (dss_cons (ds_setLc 6 sc_parting.nd (blkOk_by (own := [("well", 7), ("other_well", 8)]) (by dsimp only [Sx.at]; decide +kernel)) (di_w (di_zip m_zip (da_cons (de_ix (de_var 4) de_int) (da_cons (de_ix (de_var 5) de_int) da_nil)))) (dx_tup (dxs_cons (dx_name 7 sc_parting.nd) (dxs_cons (dx_name 8 sc_parting.nd) dxs_nil))) (dts_one (dt_cmp cmp_ne (de_var 7) (de_var 8))) (de_var 7) (by decide +kernel))
      (dss_one (ds_ret (de_call (h_marked.mono (Nat.le_of_ble_eq_true rfl)) (da_cons (de_var 0) (da_cons (de_var 3) (da_cons (de_slice (de_var 6) do_none (do_some de_int)) da_nil)))))))
      dss_nil)))
      (dss_one (ds_ret de_non)))
set_option maxHeartbeats 4000000 in
theorem fd__law_cell {G : Gx} {f : Addr} {fd : FuncData} (F : Fun G.K "_law_cell" "_law_cell" s__law_cell f fd) (b : Binds G.K fd ["script", "k"] []) (g : G.mg "_law_cell" = some (.ref f)) (m_len : G.mg "len" = none) : Fd G 1 "_law_cell" 2 F_law_cell :=
  fd_mk (k := 0) (body := (sSeq (sIf (tB' (e2 ltD (eVar 1) (eCB lenD (aCons (eVar 0) aNil))))
      (sRet (e2 modD (e2 ixD (eVar 0) (eVar 1)) (e2 powD (eC (.int 10)) (eC (.int 18)))))
      sNil)
      (sSeq (sSet 2 (e2 addD (eC (.int 17)) (e2 mulD (e2 mulD (eC (.int 7)) (eVar 1)) (eVar 1))))
      (sSeq (sIf (tB' (e2 gtD (eCB lenD (aCons (eVar 0) aNil)) (eC (.int 0))))
      (sSet 2 (e2 addD (eVar 2) (e2 mulD (e2 modD (e2 ixD (eVar 0) (e2 modD (eVar 1) (eCB lenD (aCons (eVar 0) aNil)))) (eC (.int 1000003))) (e2 addD (eVar 1) (eC (.int 5))))))
      sNil)
      (sRet (e2 divD (e2 modD (e2 mulD (eVar 2) (eC (.int 48271))) (eC (.int 2147483647))) (eC (.int 3)))))))) F sc__law_cell b g rfl rfl (dss_cons (ds_if (dt_cmp cmp_lt (de_var 1) (de_len m_len (da_cons (de_var 0) da_nil)))
      (dss_one (ds_ret (de_mod (de_ix (de_var 0) (de_var 1)) (de_pow de_int de_int))))
      dss_nil)
      (dss_cons (ds_set 2 sc__law_cell.nd (de_add de_int (de_mul (de_mul de_int (de_var 1)) (de_var 1))))
      (dss_cons (ds_if (dt_cmp cmp_gt (de_len m_len (da_cons (de_var 0) da_nil)) de_int)
      (dss_one (ds_set 2 sc__law_cell.nd (de_add (de_var 2) (de_mul (de_mod (de_ix (de_var 0) (de_mod (de_var 1) (de_len m_len (da_cons (de_var 0) da_nil)))) de_int) (de_add (de_var 1) de_int)))))
      dss_nil)
      (dss_one (ds_ret (de_div (de_mod (de_mul (de_var 2) de_int) de_int) de_int))))))
set_option maxHeartbeats 4000000 in
theorem fd__law_crate {G : Gx} {f : Addr} {fd : FuncData} (F : Fun G.K "_law_crate" "_law_crate" s__law_crate f fd) (b : Binds G.K fd ["cell", "trays", "wells"] []) (g : G.mg "_law_crate" = some (.ref f)) (m_range : G.mg "range" = none) (m_tuple : G.mg "tuple" = none) : Fd G 1 "_law_crate" 3 F_law_crate :=
  fd_mk (k := 0) (body := (sSeq (sSetO 3 aNil)
      (sSeq (sFor (iRg (rg1D (e2 modD (eVar 0) (e2 addD (eVar 1) (eC (.int 1)))))) (gN 4)
      (sMut 3 appM (aCons (e2 modD (e2 divD (eVar 0) (e2 addD (eC (.int 7)) (e2 mulD (e2 mulD (eC (.int 5)) (eVar 4)) (e2 addD (eVar 4) (eC (.int 1)))))) (e2 addD (eVar 2) (eC (.int 1)))) aNil)))
      (sRet (eCB tupleD (aCons (eVarR 3) aNil)))))) F sc__law_crate b g rfl rfl (dss_cons (ds_setO 3 sc__law_crate.nd (df_lst da_nil))
      (dss_cons (ds_for (vs := [4]) (di_rg1 m_range (de_mod (de_var 0) (de_add (de_var 1) de_int))) (dx_name 4 sc__law_crate.nd)
      (dss_one (ds_append 3 (da_cons (de_mod (de_div (de_var 0) (de_add de_int (de_mul (de_mul de_int (de_var 4)) (de_add (de_var 4) de_int)))) (de_add (de_var 2) de_int)) da_nil))))
      (dss_one (ds_ret (de_tuple m_tuple (da_cons (de_varR 3) da_nil))))))
set_option maxHeartbeats 4000000 in
theorem fd__law_way {G : Gx} {f : Addr} {fd : FuncData} (F : Fun G.K "_law_way" "_law_way" s__law_way f fd) (b : Binds G.K fd ["cell", "one", "other"] []) (g : G.mg "_law_way" = some (.ref f)) (m_enumerate : G.mg "enumerate" = none) (m_len : G.mg "len" = none) (m_range : G.mg "range" = none) (m_tuple : G.mg "tuple" = none) : Fd G 1 "_law_way" 3 F_law_way :=
  fd_mk (k := 0) (body := (sSeq (sSetO 3 aNil)
      (sSeq (sFor (iEnumD (eVar 1)) (gT 2 (gsC (gN 4) (gsC (gN 5) gsN)))
      (sSeq (sSet 6 (e2 divD (eVar 0) (e2 addD (eC (.int 3)) (e2 mulD (eC (.int 11)) (eVar 4)))))
      (sSeq (sSet 7 (eL (lLc [8] (iRg (rg1D (eCB lenD (aCons (eVar 2) aNil)))) (gN 8) (tOr' (tB' (e2 gtD (eVar 5) (eC (.int 0)))) (tB' (e2 eqD (e2 ixD (eVar 2) (eVar 8)) (eC (.int 0))))) (eVar 8))))
      (sSeq (sIf (tB' (e2 eqD (eVar 7) (eL aNil)))
      (sRet (eC .none))
      sNil)
      (sSeq (sSet 8 (e2 ixD (eVar 7) (e2 modD (eVar 6) (eCB lenD (aCons (eVar 7) aNil)))))
      (sMut 3 appM (aCons (eTup (aCons (eVar 8) (aCons (eCB tupleD (aCons (eL (lLc [9] (iRg (rg1D (e2 ixD (eVar 2) (eVar 8)))) (gN 9) tY (e2 modD (e2 divD (eVar 6) (e2 addD (eC (.int 5)) (e2 mulD (eC (.int 7)) (eVar 9)))) (eVar 5)))) aNil)) aNil))) aNil)))))))
      (sRet (eCB tupleD (aCons (eVarR 3) aNil)))))) F sc__law_way b g rfl rfl (dss_cons (ds_setO 3 sc__law_way.nd (df_lst da_nil))
      (dss_cons (ds_for (vs := [4, 5]) (di_enum m_enumerate (de_var 1)) (dx_tup (dxs_cons (dx_name 4 sc__law_way.nd) (dxs_cons (dx_name 5 sc__law_way.nd) dxs_nil)))
      (dss_cons (ds_set 6 sc__law_way.nd (de_div (de_var 0) (de_add de_int (de_mul de_int (de_var 4)))))
      (dss_cons (ds_setLc 7 sc__law_way.nd (blkOk_by (own := [("there", 8)]) (by dsimp only [Sx.at]; decide +kernel)) (di_w (di_rg1 m_range (de_len m_len (da_cons (de_var 2) da_nil)))) (dx_name 8 sc__law_way.nd) (dts_one (dt_w (dw_or (dt_cmp cmp_gt (de_var 5) de_int) (dw_or1 (dt_cmp cmp_eq (de_ix (de_var 2) (de_var 8)) de_int))))) (de_var 8) (by decide +kernel))
      (dss_cons (ds_if (dt_cmp cmp_eq (de_var 7) (de_l (df_lst da_nil)))
      (dss_one (ds_ret de_non))
      dss_nil)
      (dss_cons (ds_set 8 sc__law_way.nd (de_ix (de_var 7) (de_mod (de_var 6) (de_len m_len (da_cons (de_var 7) da_nil)))))
      (dss_one (ds_append 3 (da_cons (de_tup (da_cons (de_var 8) (da_cons (de_tuple m_tuple (da_cons (de_l (df_lc sc__law_way.nd (blkOk_by (own := [("k", 9)]) (by dsimp only [Sx.at]; decide +kernel)) (di_w (di_rg1 m_range (de_ix (de_var 2) (de_var 8)))) (dx_name 9 sc__law_way.nd) dts_nil (de_mod (de_div (de_var 6) (de_add de_int (de_mul de_int (de_var 9)))) (de_var 5)))) da_nil)) da_nil))) da_nil))))))))
      (dss_one (ds_ret (de_tuple m_tuple (da_cons (de_varR 3) da_nil))))))
set_option maxHeartbeats 4000000 in
theorem fd__law_turned {G : Gx} {f : Addr} {fd : FuncData} (F : Fun G.K "_law_turned" "_law_turned" s__law_turned f fd) (b : Binds G.K fd ["way", "filling"] []) (g : G.mg "_law_turned" = some (.ref f)) (m_tuple : G.mg "tuple" = none) : Fd G 1 "_law_turned" 2 F_law_turned :=
  fd_mk (k := 0) (body := (sSeq (sAsg (e2 ixD (eVar 0) (e2 ixD (eVar 1) (eC (.int 0)))) (gT 2 (gsC (gN 2) (gsC (gN 3) gsN))))
      (sRet (eTup (aCons (eVar 2) (aCons (eCB tupleD (aCons (eL (lLc [4] (iItems (eVar 3)) (gN 4) tY (e2 ixD (e2 ixD (eVar 1) (eC (.int 1))) (eVar 4)))) aNil)) aNil)))))) F sc__law_turned b g rfl rfl (dss_cons (ds_asg (vs := [2, 3]) (de_ix (de_var 0) (de_ix (de_var 1) de_int)) (dx_tup (dxs_cons (dx_name 2 sc__law_turned.nd) (dxs_cons (dx_name 3 sc__law_turned.nd) dxs_nil))))
      (dss_one (ds_ret (de_tup (da_cons (de_var 2) (da_cons (de_tuple m_tuple (da_cons (de_l (df_lc sc__law_turned.nd (blkOk_by (own := [("well", 4)]) (by dsimp only [Sx.at]; decide +kernel)) (diw_seq (de_var 3)) (dx_name 4 sc__law_turned.nd) dts_nil (de_ix (de_ix (de_var 1) de_int) (de_var 4)))) da_nil)) da_nil))))))
set_option maxHeartbeats 4000000 in
theorem fd__law_bent {G : Gx} {f : Addr} {fd : FuncData} (F : Fun G.K "_law_bent" "_law_bent" s__law_bent f fd) (b : Binds G.K fd ["cell", "one", "other", "way"] []) (g : G.mg "_law_bent" = some (.ref f)) (m_len : G.mg "len" = none) (m_range : G.mg "range" = none) : Fd G 1 "_law_bent" 4 F_law_bent :=
  fd_mk (k := 0) (body := (sSeq (sSet 4 (e2 modD (eVar 0) (eCB lenD (aCons (eVar 3) aNil))))
      (sSeq (sAsg (e2 ixD (eVar 3) (eVar 4)) (gT 2 (gsC (gN 5) (gsC (gN 6) gsN))))
      (sSeq (sIf (tAnd' (tB' (e2 gtD (eCB lenD (aCons (eVar 6) aNil)) (eC (.int 0)))) (tB' (e2 gtD (e2 ixD (eVar 1) (eVar 4)) (eC (.int 1)))))
      (sSeq (sSet 7 (e2 modD (e2 divD (eVar 0) (eC (.int 7))) (eCB lenD (aCons (eVar 6) aNil))))
      (sSeq (sSet 8 (e2 modD (e2 addD (e2 addD (e2 ixD (eVar 6) (eVar 7)) (eC (.int 1))) (e2 modD (e2 divD (eVar 0) (eC (.int 50))) (e2 subD (e2 ixD (eVar 1) (eVar 4)) (eC (.int 1))))) (e2 ixD (eVar 1) (eVar 4))))
      (sSeq (sSet 9 (e2 addD (e2 addD (eSl (eVar 6) eNoPart (ePart (eVar 7))) (eTup (aCons (eVar 8) aNil))) (eSl (eVar 6) (ePart (e2 addD (eVar 7) (eC (.int 1)))) eNoPart)))
      (sRet (e2 addD (e2 addD (eSl (eVar 3) eNoPart (ePart (eVar 4))) (eTup (aCons (eTup (aCons (eVar 5) (aCons (eVar 9) aNil))) aNil))) (eSl (eVar 3) (ePart (e2 addD (eVar 4) (eC (.int 1)))) eNoPart))))))
      sNil)
      (sSeq (sSet 10 (eL (lLc [11] (iRg (rg1D (eCB lenD (aCons (eVar 2) aNil)))) (gN 11) (tB' (e2 eqD (e2 ixD (eVar 2) (eVar 11)) (eCB lenD (aCons (eVar 6) aNil)))) (eVar 11))))
      (sSeq (sSet 11 (e2 ixD (eVar 10) (e2 modD (e2 divD (eVar 0) (eC (.int 7))) (eCB lenD (aCons (eVar 10) aNil)))))
      (sRet (e2 addD (e2 addD (eSl (eVar 3) eNoPart (ePart (eVar 4))) (eTup (aCons (eTup (aCons (eVar 11) (aCons (eVar 6) aNil))) aNil))) (eSl (eVar 3) (ePart (e2 addD (eVar 4) (eC (.int 1)))) eNoPart))))))))) F sc__law_bent b g rfl rfl (dss_cons (ds_set 4 sc__law_bent.nd (de_mod (de_var 0) (de_len m_len (da_cons (de_var 3) da_nil))))
      (dss_cons (ds_asg (vs := [5, 6]) (de_ix (de_var 3) (de_var 4)) (dx_tup (dxs_cons (dx_name 5 sc__law_bent.nd) (dxs_cons (dx_name 6 sc__law_bent.nd) dxs_nil))))
      (dss_cons (ds_if (dt_w (dw_and (dt_cmp cmp_gt (de_len m_len (da_cons (de_var 6) da_nil)) de_int) (dw_and1 (dt_cmp cmp_gt (de_ix (de_var 1) (de_var 4)) de_int))))
      (dss_cons (ds_set 7 sc__law_bent.nd (de_mod (de_div (de_var 0) de_int) (de_len m_len (da_cons (de_var 6) da_nil))))
      (dss_cons (ds_set 8 sc__law_bent.nd (de_mod (de_add (de_add (de_ix (de_var 6) (de_var 7)) de_int) (de_mod (de_div (de_var 0) de_int) (de_sub (de_ix (de_var 1) (de_var 4)) de_int))) (de_ix (de_var 1) (de_var 4))))
      (dss_cons (ds_set 9 sc__law_bent.nd (de_add (de_add (de_slice (de_var 6) do_none (do_some (de_var 7))) (de_tup (da_cons (de_var 8) da_nil))) (de_slice (de_var 6) (do_some (de_add (de_var 7) de_int)) do_none)))
      (dss_one (ds_ret (de_add (de_add (de_slice (de_var 3) do_none (do_some (de_var 4))) (de_tup (da_cons (de_tup (da_cons (de_var 5) (da_cons (de_var 9) da_nil))) da_nil))) (de_slice (de_var 3) (do_some (de_add (de_var 4) de_int)) do_none)))))))
      dss_nil)
      (dss_cons (ds_setLc 10 sc__law_bent.nd (blkOk_by (own := [("goal", 11)]) (by dsimp only [Sx.at]; decide +kernel)) (di_w (di_rg1 m_range (de_len m_len (da_cons (de_var 2) da_nil)))) (dx_name 11 sc__law_bent.nd) (dts_one (dt_cmp cmp_eq (de_ix (de_var 2) (de_var 11)) (de_len m_len (da_cons (de_var 6) da_nil)))) (de_var 11) (by decide +kernel))
      (dss_cons (ds_set 11 sc__law_bent.nd (de_ix (de_var 10) (de_mod (de_div (de_var 0) de_int) (de_len m_len (da_cons (de_var 10) da_nil)))))
      (dss_one (ds_ret (de_add (de_add (de_slice (de_var 3) do_none (do_some (de_var 4))) (de_tup (da_cons (de_tup (da_cons (de_var 11) (da_cons (de_var 6) da_nil))) da_nil))) (de_slice (de_var 3) (do_some (de_add (de_var 4) de_int)) do_none)))))))))
set_option maxHeartbeats 4000000 in
theorem fd__law_is_filling {G : Gx} {f : Addr} {fd : FuncData} (F : Fun G.K "_law_is_filling" "_law_is_filling" s__law_is_filling f fd) (b : Binds G.K fd ["crate", "thing"] []) (g : G.mg "_law_is_filling" = some (.ref f)) (m_bool : G.mg "bool" = none) (m_int : G.mg "int" = none) (m_isinstance : G.mg "isinstance" = none) (m_len : G.mg "len" = none) (m_range : G.mg "range" = none) (m_tuple : G.mg "tuple" = none) : Fd G 1 "_law_is_filling" 2 F_law_is_filling :=
  fd_mk (k := 0) (body := (sSeq (sIf (tOr' (tNot' (tB' (e1 (isiD "tuple") (eVar 1)))) (tOr' (tB' (e2 neD (eCB lenD (aCons (eVar 1) aNil)) (eC (.int 2)))) (tNot' (tB' (e1 (isiD "tuple") (e2 ixD (eVar 1) (eC (.int 1))))))))
      (sRet (eC (.bool false)))
      sNil)
      (sSeq (sIf (tOr' (tB' (e2 (inRgD true) (e2 ixD (eVar 1) (eC (.int 0))) (eCB lenD (aCons (eVar 0) aNil)))) (tB' (e2 neD (eCB lenD (aCons (e2 ixD (eVar 1) (eC (.int 1))) aNil)) (e2 ixD (eVar 0) (e2 ixD (eVar 1) (eC (.int 0)))))))
      (sRet (eC (.bool false)))
      sNil)
      (sSeq (sFor (iItems (e2 addD (eTup (aCons (e2 ixD (eVar 1) (eC (.int 0))) aNil)) (e2 ixD (eVar 1) (eC (.int 1))))) (gN 2)
      (sIf (tOr' (tNot' (tB' (e1 (isiD "int") (eVar 2)))) (tB' (e1 (isiD "bool") (eVar 2))))
      (sRet (eC (.bool false)))
      sNil))
      (sRet (e2 eqD (eL (lLc [2] (iItems (e2 ixD (eVar 1) (eC (.int 1)))) (gN 2) (tB' (e2 notInD (eVar 2) (eTup (aCons (eC (.int 0)) (aCons (eC (.int 1)) aNil))))) (eVar 2))) (eL aNil))))))) F sc__law_is_filling b g rfl rfl (dss_cons (ds_if (dt_w (dw_or (dt_not (dt_val (de_isi m_isinstance m_tuple (by decide +kernel) (de_var 1)))) (dw_or (dt_cmp cmp_ne (de_len m_len (da_cons (de_var 1) da_nil)) de_int) (dw_or1 (dt_not (dt_val (de_isi m_isinstance m_tuple (by decide +kernel) (de_ix (de_var 1) de_int))))))))
      (dss_one (ds_ret de_bl))
      dss_nil)
      (dss_cons (ds_if (dt_w (dw_or (dt_inRgN m_range (de_ix (de_var 1) de_int) (de_len m_len (da_cons (de_var 0) da_nil))) (dw_or1 (dt_cmp cmp_ne (de_len m_len (da_cons (de_ix (de_var 1) de_int) da_nil)) (de_ix (de_var 0) (de_ix (de_var 1) de_int))))))
      (dss_one (ds_ret de_bl))
      dss_nil)
      (dss_cons (ds_for (vs := [2]) (di_seq (de_add (de_tup (da_cons (de_ix (de_var 1) de_int) da_nil)) (de_ix (de_var 1) de_int))) (dx_name 2 sc__law_is_filling.nd)
      (dss_one (ds_if (dt_w (dw_or (dt_not (dt_val (de_isi m_isinstance m_int (by decide +kernel) (de_var 2)))) (dw_or1 (dt_val (de_isi m_isinstance m_bool (by decide +kernel) (de_var 2))))))
      (dss_one (ds_ret de_bl))
      dss_nil)))
      (dss_one (ds_ret (de_cmp cmp_eq (de_l (df_lc sc__law_is_filling.nd (blkOk_by (own := [("one", 2)]) (by dsimp only [Sx.at]; decide +kernel)) (diw_seq (de_ix (de_var 1) de_int)) (dx_name 2 sc__law_is_filling.nd) (dts_one (dt_cmp cmp_notIn (de_var 2) (de_tup (da_cons de_int (da_cons de_int da_nil))))) (de_var 2))) (de_l (df_lst da_nil))))))))
set_option maxHeartbeats 4000000 in
theorem ok_law {G : Gx} {f : Addr} {fd : FuncData} (F : Fun G.K "law" "law" s_law f fd) (h__law_turned : Fd G 1 "_law_turned" 2 F_law_turned) (h__law_is_filling : Fd G 1 "_law_is_filling" 2 F_law_is_filling) (h_parting : Fd G 2 "parting" 3 F_parting) (h__law_cell : Fd G 1 "_law_cell" 2 F_law_cell) (h__law_bent : Fd G 1 "_law_bent" 4 F_law_bent) (h__law_way : Fd G 1 "_law_way" 3 F_law_way) (h__law_crate : Fd G 1 "_law_crate" 3 F_law_crate) (m_len : G.mg "len" = none) : FnOk G.P G.w G.K G.mg G.base (L2.CX G.P G.w) 3 f fd ["script"] (spD G.K G.cls 1 F_law_v8) :=
  fd_fn (k := 2) (body := (sSeq (sSet 1 (eCall F_law_crate (aCons (eCall F_law_cell (aCons (eVar 0) (aCons (eC (.int 0)) aNil))) (aCons (eC (.int 5)) (aCons (eC (.int 5)) aNil)))))
      (sSeq (sSet 2 (eCall F_law_crate (aCons (eCall F_law_cell (aCons (eVar 0) (aCons (eC (.int 1)) aNil))) (aCons (eC (.int 5)) (aCons (eC (.int 5)) aNil)))))
      (sSeq (sSet 3 (eCall F_law_way (aCons (eCall F_law_cell (aCons (eVar 0) (aCons (eC (.int 2)) aNil))) (aCons (eVar 1) (aCons (eVar 2) aNil)))))
      (sSeq (sIf (tB' (e2 isD (eVar 3) (eC .none)))
      (sRet (eC (.bool true)))
      sNil)
      (sSeq (sSet 4 (eCall F_law_way (aCons (eCall F_law_cell (aCons (eVar 0) (aCons (eC (.int 3)) aNil))) (aCons (eVar 1) (aCons (eVar 2) aNil)))))
      (sSeq (sIf (tAnd' (tB' (e2 gtD (e2 modD (eCall F_law_cell (aCons (eVar 0) (aCons (eC (.int 4)) aNil))) (eC (.int 3))) (eC (.int 0)))) (tB' (e2 gtD (eCB lenD (aCons (eVar 3) aNil)) (eC (.int 0)))))
      (sSet 4 (eCall F_law_bent (aCons (eCall F_law_cell (aCons (eVar 0) (aCons (eC (.int 3)) aNil))) (aCons (eVar 1) (aCons (eVar 2) (aCons (eVar 3) aNil))))))
      sNil)
      (sSeq (sFor (iItems (eTup (aCons (eVar 4) (aCons (eVar 3) aNil)))) (gN 5)
      (sSeq (sSet 6 (eTup (aCons (eVar 3) (aCons (eVar 5) aNil))))
      (sSeq (sSet 7 (eCall F_parting (aCons (eVar 1) (aCons (eVar 3) (aCons (eVar 5) aNil)))))
      (sSeq (sIf (tB' (e2 eqD (eVar 3) (eVar 5)))
      (sIf (tB' (e2 isNotD (eVar 7) (eC .none)))
      (sRet (eC (.bool false)))
      sNil)
      (sIf (tOr' (tNot' (tB' (eCall F_law_is_filling (aCons (eVar 1) (aCons (eVar 7) aNil))))) (tB' (e2 eqD (eCall F_law_turned (aCons (eVar 3) (aCons (eVar 7) aNil))) (eCall F_law_turned (aCons (eVar 5) (aCons (eVar 7) aNil))))))
      (sRet (eC (.bool false)))
      sNil))
      (sIf (tB' (e2 neD (eTup (aCons (eVar 3) (aCons (eVar 5) aNil))) (eVar 6)))
      (sRet (eC (.bool false)))
      sNil)))))
      (sRet (eC (.bool true))))))))))) F sc_law rfl rfl (dss_cons (ds_set 1 sc_law.nd (de_call (h__law_crate.mono (Nat.le_of_ble_eq_true rfl)) (da_cons (de_call (h__law_cell.mono (Nat.le_of_ble_eq_true rfl)) (da_cons (de_var 0) (da_cons de_int da_nil))) (da_cons de_int (da_cons de_int da_nil)))))
      (dss_cons (ds_set 2 sc_law.nd (de_call (h__law_crate.mono (Nat.le_of_ble_eq_true rfl)) (da_cons (de_call (h__law_cell.mono (Nat.le_of_ble_eq_true rfl)) (da_cons (de_var 0) (da_cons de_int da_nil))) (da_cons de_int (da_cons de_int da_nil)))))
      (dss_cons (ds_set 3 sc_law.nd (de_call (h__law_way.mono (Nat.le_of_ble_eq_true rfl)) (da_cons (de_call (h__law_cell.mono (Nat.le_of_ble_eq_true rfl)) (da_cons (de_var 0) (da_cons de_int da_nil))) (da_cons (de_var 1) (da_cons (de_var 2) da_nil)))))
      (dss_cons (ds_if (dt_cmp cmp_is (de_var 3) de_non)
      (dss_one (ds_ret de_bl))
      dss_nil)
      (dss_cons (ds_set 4 sc_law.nd (de_call (h__law_way.mono (Nat.le_of_ble_eq_true rfl)) (da_cons (de_call (h__law_cell.mono (Nat.le_of_ble_eq_true rfl)) (da_cons (de_var 0) (da_cons de_int da_nil))) (da_cons (de_var 1) (da_cons (de_var 2) da_nil)))))
      (dss_cons (ds_if (dt_w (dw_and (dt_cmp cmp_gt (de_mod (de_call (h__law_cell.mono (Nat.le_of_ble_eq_true rfl)) (da_cons (de_var 0) (da_cons de_int da_nil))) de_int) de_int) (dw_and1 (dt_cmp cmp_gt (de_len m_len (da_cons (de_var 3) da_nil)) de_int))))
      (dss_one (ds_set 4 sc_law.nd (de_call (h__law_bent.mono (Nat.le_of_ble_eq_true rfl)) (da_cons (de_call (h__law_cell.mono (Nat.le_of_ble_eq_true rfl)) (da_cons (de_var 0) (da_cons de_int da_nil))) (da_cons (de_var 1) (da_cons (de_var 2) (da_cons (de_var 3) da_nil)))))))
      dss_nil)
      (dss_cons (ds_for (vs := [5]) (di_seq (de_tup (da_cons (de_var 4) (da_cons (de_var 3) da_nil)))) (dx_name 5 sc_law.nd)
      (dss_cons (ds_set 6 sc_law.nd (de_tup (da_cons (de_var 3) (da_cons (de_var 5) da_nil))))
      (dss_cons (ds_set 7 sc_law.nd (de_call (h_parting.mono (Nat.le_of_ble_eq_true rfl)) (da_cons (de_var 1) (da_cons (de_var 3) (da_cons (de_var 5) da_nil)))))
      (dss_cons (ds_if (dt_cmp cmp_eq (de_var 3) (de_var 5))
      (dss_one (ds_if (dt_cmp cmp_isNot (de_var 7) de_non)
      (dss_one (ds_ret de_bl))
      dss_nil))
      (dss_one (ds_if (dt_w (dw_or (dt_not (dt_val (de_call (h__law_is_filling.mono (Nat.le_of_ble_eq_true rfl)) (da_cons (de_var 1) (da_cons (de_var 7) da_nil))))) (dw_or1 (dt_cmp cmp_eq (de_call (h__law_turned.mono (Nat.le_of_ble_eq_true rfl)) (da_cons (de_var 3) (da_cons (de_var 7) da_nil))) (de_call (h__law_turned.mono (Nat.le_of_ble_eq_true rfl)) (da_cons (de_var 5) (da_cons (de_var 7) da_nil)))))))
      (dss_one (ds_ret de_bl))
      dss_nil)))
      (dss_one (ds_if (dt_cmp cmp_ne (de_tup (da_cons (de_var 3) (da_cons (de_var 5) da_nil))) (de_var 6))
      (dss_one (ds_ret de_bl))
      dss_nil))))))
      (dss_one (ds_ret de_bl)))))))))
theorem splA {l : List PyData} {i : Nat} {a : PyData} (hl : l.length ≤ 1000) : addD (.tuple (l.take i)) (.tuple [a]) = .ok (.tuple (l.take i ++ [a])) := q_addT (by rw [List.length_take, lim_eq]; simp; omega)
theorem splB {l : List PyData} {i : Nat} {a : PyData} (hl : l.length ≤ 1000) (hi : i < l.length) : addD (.tuple (l.take i ++ [a])) (.tuple (l.drop (i + 1))) = .ok (.tuple (l.set i a)) := by
  rw [q_addT (by rw [List.length_append, List.length_take, List.length_drop, lim_eq]; simp; omega), List.set_eq_take_append_cons_drop, if_pos hi, List.append_assoc]
  rfl
theorem way_set {ws us : List Int} {wy : List (Int × List Int)} {i : Nat} {x : Int} {r : Int × List Int} (ok : WayOk ws us wy) (hx : ws[i]? = some x) (fr : FillOk x us r) : WayOk ws us (wy.set i r) := by
  refine ⟨by rw [List.length_set]; exact ok.1, fun j p y hp hy => ?_⟩
  by_cases hj : j = i
  · subst hj
    rw [hx] at hy
    cases hy
    have hl := (List.getElem?_eq_some_iff.mp hp).1
    rw [List.length_set] at hl
    rw [List.getElem?_set_self hl] at hp
    cases hp
    exact fr
  · rw [List.getElem?_set_ne (Ne.symm hj)] at hp
    exact ok.2 j p y hp hy
theorem law_bent {ws us : List Int} {wy : List (Int × List Int)} {c : Int} (c0 : 0 ≤ c) (sw : Small ws) (su : Small us) (lw : ws.length ≤ 60) (lu : us.length ≤ 60) (ok : WayOk ws us wy) (ne : 0 < wy.length) : ∃ d, F_law_bent [.int c, cr ws, cr us, dWay wy] = .ok d ∧ ∃ wy', d = dWay wy' ∧ WayOk ws us wy' := by
  have wl := ok.1
  have lnw : lenD [dWay wy] = .ok (.int (wy.length : Int)) := by show Rs.ok (PyData.int ((wy.map dPair).length : Int)) = _; rw [List.length_map]
  have m1 := q_mod (i := c) (j := (wy.length : Int)) (by omega)
  have t0 : 0 ≤ c % (wy.length : Int) := Int.emod_nonneg _ (by omega)
  have t1 : c % (wy.length : Int) < (wy.length : Int) := Int.emod_lt_of_pos _ (by omega)
  obtain ⟨i, hi, il⟩ : ∃ i : Nat, c % (wy.length : Int) = (i : Int) ∧ i < wy.length := ⟨(c % (wy.length : Int)).toNat, by omega, by omega⟩
  rw [hi] at m1
  have gp : wy[i]? = some wy[i] := List.getElem?_eq_getElem il
  generalize wy[i] = p at gp
  have gx : ws[i]? = some (ws[i]'(by omega)) := List.getElem?_eq_getElem _
  generalize ws[i]'(by omega) = x at gx
  obtain ⟨x0, x1⟩ := sw x (List.mem_of_getElem? gx)
  have fp : FillOk x us p := ok.2 i p x gp gx
  have p12 : p.2.length ≤ 12 := by have := su _ (List.mem_of_getElem? fp.2.2.1); omega
  have ixw := ix_way (wy := wy) (s := (i : Int)) (by omega) (by rw [Int.toNat_natCast]; exact gp)
  have ixo : ixD (cr ws) (.int (i : Int)) = .ok (.int x) := q_ixT (at_get (by rw [List.getElem?_map, gx]; rfl))
  have ln6 : lenD [cr p.2] = .ok (.int (p.2.length : Int)) := by show Rs.ok (PyData.int ((p.2.map PyData.int).length : Int)) = _; rw [List.length_map]
  have d7 := q_div (i := c) (j := 7) (by decide) (wide_small (by decide) (by decide))
  have d50 := q_div (i := c) (j := 50) (by decide) (wide_small (by decide) (by decide))
  have c7 : 0 ≤ c / 7 := Int.ediv_nonneg c0 (by decide)
  have L0 : (wy.map dPair).length = wy.length := List.length_map ..
  have s1 : slD (dWay wy) none (some (i : Int)) = .ok (.tuple ((wy.map dPair).take i)) := by
    show Rs.ok (PyData.tuple (cutD (wy.map dPair) none (some (i : Int)))) = _
    rw [cut_take (by omega) (by rw [L0]; omega), Int.toNat_natCast]
  have s2 : slD (dWay wy) (some ((i : Int) + 1)) none = .ok (.tuple ((wy.map dPair).drop (i + 1))) := by
    show Rs.ok (PyData.tuple (cutD (wy.map dPair) (some ((i : Int) + 1)) none)) = _
    rw [cut_drop (by omega) (by rw [L0]; omega)]
    rfl
  have fin : ∀ r : Int × List Int, addD (.tuple ((wy.map dPair).take i)) (.tuple [.tuple [.int r.1, cr r.2]]) = .ok (.tuple ((wy.map dPair).take i ++ [dPair r])) ∧ addD (.tuple ((wy.map dPair).take i ++ [dPair r])) (.tuple ((wy.map dPair).drop (i + 1))) = .ok (dWay (wy.set i r)) := fun r => by
    refine ⟨splA (by omega), ?_⟩
    rw [splB (by omega) (by omega), ← List.map_set]
    rfl
  generalize hV : dWay wy = Vw at lnw ixw s1 s2
  unfold F_law_bent
  refine fn_R (ρ := [some (false, .int c), some (false, cr ws), some (false, cr us), some (false, Vw), none, none, none, none, none, none, none, none]) rfl ?_
  refine seq_R (ρ' := [some (false, .int c), some (false, cr ws), some (false, cr us), some (false, Vw), some (false, .int (i : Int)), none, none, none, none, none, none, none]) (by simp [lnw, m1]) ?_
  refine seq_R (ρ' := [some (false, .int c), some (false, cr ws), some (false, cr us), some (false, Vw), some (false, .int (i : Int)), some (false, .int p.1), some (false, cr p.2), none, none, none, none, none]) (by rw [z_asg]; simp only [z_2, z_var, bind_ok', List.getElem?_cons_zero, List.getElem?_cons_succ, ixw]; simp [dPair]) ?_
  by_cases hc : 0 < (p.2.length : Int) ∧ 1 < x
  · obtain ⟨h1, h2⟩ := hc
    have m2 := q_mod (i := c / 7) (j := (p.2.length : Int)) (by omega)
    have a0 : 0 ≤ c / 7 % (p.2.length : Int) := Int.emod_nonneg _ (by omega)
    have a1 : c / 7 % (p.2.length : Int) < (p.2.length : Int) := Int.emod_lt_of_pos _ h1
    obtain ⟨k, hk, kl⟩ : ∃ k : Nat, c / 7 % (p.2.length : Int) = (k : Int) ∧ k < p.2.length := ⟨(c / 7 % (p.2.length : Int)).toNat, by omega, by omega⟩
    rw [hk] at m2
    have gy : p.2[k]? = some p.2[k] := List.getElem?_eq_getElem kl
    generalize p.2[k] = y at gy
    have ix6 : ixD (cr p.2) (.int (k : Int)) = .ok (.int y) := q_ixT (at_get (by rw [List.getElem?_map, gy]; rfl))
    have m3 := q_mod (i := c / 50) (j := x - 1) (by omega)
    generalize c / 50 % (x - 1) = ex at m3
    have m4 := q_mod (i := y + 1 + ex) (j := x) (by omega)
    have z0 : 0 ≤ (y + 1 + ex) % x := Int.emod_nonneg _ (by omega)
    have z1 : (y + 1 + ex) % x < x := Int.emod_lt_of_pos _ (by omega)
    generalize (y + 1 + ex) % x = z at m4 z0 z1
    have e1 : slD (cr p.2) none (some (k : Int)) = .ok (.tuple ((p.2.map PyData.int).take k)) := by
      show Rs.ok (PyData.tuple (cutD (p.2.map PyData.int) none (some (k : Int)))) = _
      rw [cut_take (by omega) (by rw [List.length_map]; omega), Int.toNat_natCast]
    have e2' : slD (cr p.2) (some ((k : Int) + 1)) none = .ok (.tuple ((p.2.map PyData.int).drop (k + 1))) := by
      show Rs.ok (PyData.tuple (cutD (p.2.map PyData.int) (some ((k : Int) + 1)) none)) = _
      rw [cut_drop (by omega) (by rw [List.length_map]; omega)]
      rfl
    have e3 : addD (.tuple ((p.2.map PyData.int).take k)) (.tuple [.int z]) = .ok (.tuple ((p.2.map PyData.int).take k ++ [.int z])) := splA (by rw [List.length_map]; omega)
    have e4 : addD (.tuple ((p.2.map PyData.int).take k ++ [.int z])) (.tuple ((p.2.map PyData.int).drop (k + 1))) = .ok (cr (p.2.set k z)) := by
      rw [splB (by rw [List.length_map]; omega) (by rw [List.length_map]; omega), ← List.map_set]
    have h2' : (1 : Int) < x := h2
    obtain ⟨f1, f2⟩ := fin (p.1, p.2.set k z)
    have body : (sSeq (sSet 7 (e2 modD (e2 divD (eVar 0) (eC (.int 7))) (eCB lenD (aCons (eVar 6) aNil))))
      (sSeq (sSet 8 (e2 modD (e2 addD (e2 addD (e2 ixD (eVar 6) (eVar 7)) (eC (.int 1))) (e2 modD (e2 divD (eVar 0) (eC (.int 50))) (e2 subD (e2 ixD (eVar 1) (eVar 4)) (eC (.int 1))))) (e2 ixD (eVar 1) (eVar 4))))
      (sSeq (sSet 9 (e2 addD (e2 addD (eSl (eVar 6) eNoPart (ePart (eVar 7))) (eTup (aCons (eVar 8) aNil))) (eSl (eVar 6) (ePart (e2 addD (eVar 7) (eC (.int 1)))) eNoPart)))
      (sRet (e2 addD (e2 addD (eSl (eVar 3) eNoPart (ePart (eVar 4))) (eTup (aCons (eTup (aCons (eVar 5) (aCons (eVar 9) aNil))) aNil))) (eSl (eVar 3) (ePart (e2 addD (eVar 4) (eC (.int 1)))) eNoPart)))))) [some (false, .int c), some (false, cr ws), some (false, cr us), some (false, Vw), some (false, .int (i : Int)), some (false, .int p.1), some (false, cr p.2), none, none, none, none, none] = .ok (.ret (dWay (wy.set i (p.1, p.2.set k z)))) := by
      refine nx_seq (ρ' := [some (false, .int c), some (false, cr ws), some (false, cr us), some (false, Vw), some (false, .int (i : Int)), some (false, .int p.1), some (false, cr p.2), some (false, .int (k : Int)), none, none, none, none]) (by simp [d7, ln6, m2]) ?_
      refine nx_seq (ρ' := [some (false, .int c), some (false, cr ws), some (false, cr us), some (false, Vw), some (false, .int (i : Int)), some (false, .int p.1), some (false, cr p.2), some (false, .int (k : Int)), some (false, .int z), none, none, none]) (by simp [ix6, d50, ixo, m3, m4]) ?_
      refine nx_seq (ρ' := [some (false, .int c), some (false, cr ws), some (false, cr us), some (false, Vw), some (false, .int (i : Int)), some (false, .int p.1), some (false, cr p.2), some (false, .int (k : Int)), some (false, .int z), some (false, cr (p.2.set k z)), none, none]) (by simp only [z_set, z_2, z_sl, z_var, z_part, z_noPart, z_tup, z_aCons, z_aNil, z_C, bind_ok', List.getElem?_cons_zero, List.getElem?_cons_succ, e1, e2', e3, e4, q_add]; rfl) ?_
      have f1' : addD (.tuple ((wy.map dPair).take i)) (.tuple [.tuple [.int p.1, cr (p.2.set k z)]]) = .ok (.tuple ((wy.map dPair).take i ++ [dPair (p.1, p.2.set k z)])) := f1
      simp only [z_ret, z_2, z_sl, z_var, z_part, z_noPart, z_tup, z_aCons, z_aNil, z_C, bind_ok', List.getElem?_cons_zero, List.getElem?_cons_succ, s1, s2, q_add, f1', f2]
    refine seq_Q (d := dWay (wy.set i (p.1, p.2.set k z))) ?_ ⟨_, rfl, way_set ok gx ⟨fp.1, fp.2.1, by show us[p.1.toNat]? = some (((p.2.set k z).length : Nat) : Int); rw [List.length_set]; exact fp.2.2.1, fun y' hy' => ?_⟩⟩
    · rw [z_sIf]
      have tt : (tAnd' (tB' (e2 gtD (eCB lenD (aCons (eVar 6) aNil)) (eC (.int 0)))) (tB' (e2 gtD (e2 ixD (eVar 1) (eVar 4)) (eC (.int 1))))) [some (false, .int c), some (false, cr ws), some (false, cr us), some (false, Vw), some (false, .int (i : Int)), some (false, .int p.1), some (false, cr p.2), none, none, none, none, none] = .ok true := by
        simp only [z_tAnd, z_tB, z_2, z_CB, z_aCons, z_aNil, z_var, z_C, bind_ok', List.getElem?_cons_zero, List.getElem?_cons_succ, ln6, q_gt, decide_eq_true h1, z_bD, if_true, ixo, decide_eq_true h2']
      rw [tt, bind_ok', if_pos rfl, body]
    · rcases List.mem_or_eq_of_mem_set hy' with h | h
      · exact fp.2.2.2 y' h
      · rw [h]; exact ⟨z0, z1⟩
  · refine seq_R (ρ' := [some (false, .int c), some (false, cr ws), some (false, cr us), some (false, Vw), some (false, .int (i : Int)), some (false, .int p.1), some (false, cr p.2), none, none, none, none, none]) ?_ ?_
    · have tt : (tAnd' (tB' (e2 gtD (eCB lenD (aCons (eVar 6) aNil)) (eC (.int 0)))) (tB' (e2 gtD (e2 ixD (eVar 1) (eVar 4)) (eC (.int 1))))) [some (false, .int c), some (false, cr ws), some (false, cr us), some (false, Vw), some (false, .int (i : Int)), some (false, .int p.1), some (false, cr p.2), none, none, none, none, none] = .ok false := by
        by_cases h1 : 0 < (p.2.length : Int)
        · have h2 : ¬ (1 : Int) < x := fun z => hc ⟨h1, z⟩
          simp only [z_tAnd, z_tB, z_2, z_CB, z_aCons, z_aNil, z_var, z_C, bind_ok', List.getElem?_cons_zero, List.getElem?_cons_succ, ln6, q_gt, decide_eq_true h1, z_bD, if_true, ixo, decide_eq_false h2]
        · simp only [z_tAnd, z_tB, z_2, z_CB, z_aCons, z_aNil, z_var, z_C, bind_ok', List.getElem?_cons_zero, List.getElem?_cons_succ, ln6, q_gt, decide_eq_false h1, z_bD]
          rfl
      rw [z_sIf, tt]
      rfl
    have lnu : lenD [cr us] = .ok (.int (us.length : Int)) := by show Rs.ok (PyData.int ((us.map PyData.int).length : Int)) = _; rw [List.length_map]
    refine seq_R (ρ' := [some (false, .int c), some (false, cr ws), some (false, cr us), some (false, Vw), some (false, .int (i : Int)), some (false, .int p.1), some (false, cr p.2), none, none, none, some (false, .list (((iota (us.length : Int)).filter fun g => decide (pick us g = (p.2.length : Int))).map PyData.int)), none]) ?_ ?_
    · simp [lnu, rgOk0 (show (0 : Int) ≤ (us.length : Int) by omega) (show (us.length : Int) ≤ 16777216 by omega), rgD0, -List.map_map]
      rw [lc_flatE (enc := PyData.int) (h := fun g : Int => if decide (pick us g = (p.2.length : Int)) then [PyData.int g] else []) (xs := iota (us.length : Int))]
      rotate_left
      · intro g hg
        obtain ⟨g0, g1⟩ := iota_below _ g hg
        have hix := ix_cr (ws := us) g0 g1
        by_cases h : pick us g = (p.2.length : Int)
        · simp [hix, h]
        · simp [hix, h]
      rw [flat_filter (fun g => decide (pick us g = (p.2.length : Int)))]
      rw [cap_le (by have := List.length_filter_le (fun g => decide (pick us g = (p.2.length : Int))) (iota (us.length : Int)); rw [iota_len] at this; rw [List.length_map, lim_eq]; omega)]
      simp [-List.map_map]
    have gm : ∀ y ∈ (iota (us.length : Int)).filter (fun g => decide (pick us g = (p.2.length : Int))), 0 ≤ y ∧ y < (us.length : Int) ∧ pick us y = (p.2.length : Int) := fun y hy => by
      obtain ⟨h1, h2⟩ := List.mem_filter.mp hy
      exact ⟨(iota_below _ y h1).1, (iota_below _ y h1).2, of_decide_eq_true h2⟩
    have gp' : 0 < ((iota (us.length : Int)).filter fun g => decide (pick us g = (p.2.length : Int))).length := List.length_pos_of_mem (a := p.1) (List.mem_filter.mpr ⟨iota_mem.mpr ⟨fp.1, fp.2.1⟩, decide_eq_true (fill_pick fp).symm⟩)
    generalize ((iota (us.length : Int)).filter fun g => decide (pick us g = (p.2.length : Int))) = gs at gm gp'
    have lng : lenD [.list (gs.map PyData.int)] = .ok (.int (gs.length : Int)) := by show Rs.ok (PyData.int ((gs.map PyData.int).length : Int)) = _; rw [List.length_map]
    have m5 := q_mod (i := c / 7) (j := (gs.length : Int)) (by omega)
    have b0 : 0 ≤ c / 7 % (gs.length : Int) := Int.emod_nonneg _ (by omega)
    have b1 : c / 7 % (gs.length : Int) < (gs.length : Int) := Int.emod_lt_of_pos _ (by omega)
    generalize c / 7 % (gs.length : Int) = t at m5 b0 b1
    have hg : gs[t.toNat]? = some gs[t.toNat] := List.getElem?_eq_getElem (by omega)
    generalize gs[t.toNat] = y at hg
    have ix1 : ixD (.list (gs.map PyData.int)) (.int t) = .ok (.int y) := q_ixL (at_int b0 (by rw [List.getElem?_map, hg]; rfl))
    obtain ⟨y0, y1, ym⟩ := gm y (List.mem_of_getElem? hg)
    refine seq_R (ρ' := [some (false, .int c), some (false, cr ws), some (false, cr us), some (false, Vw), some (false, .int (i : Int)), some (false, .int p.1), some (false, cr p.2), none, none, none, some (false, .list (gs.map PyData.int)), some (false, .int y)]) (by simp only [z_set, z_2, z_var, z_C, z_CB, z_aCons, z_aNil, bind_ok', List.getElem?_cons_zero, List.getElem?_cons_succ, d7, lng, m5, ix1]; rfl) ?_
    obtain ⟨f1, f2⟩ := fin (y, p.2)
    have f1' : addD (.tuple ((wy.map dPair).take i)) (.tuple [.tuple [.int y, cr p.2]]) = .ok (.tuple ((wy.map dPair).take i ++ [dPair (y, p.2)])) := f1
    refine ret_R (d := dWay (wy.set i (y, p.2))) ?_ ⟨_, rfl, way_set ok gx ⟨y0, y1, ?_, fp.2.2.2⟩⟩
    · simp only [z_2, z_sl, z_var, z_part, z_noPart, z_tup, z_aCons, z_aNil, z_C, bind_ok', List.getElem?_cons_zero, List.getElem?_cons_succ, s1, s2, q_add, f1', f2]
    · show us[y.toNat]? = some ((p.2.length : Nat) : Int)
      rw [pick_in y0 y1, ym]
theorem law_is_filling {ws : List Int} {i : Nat} {x : Int} {l : List Int} (sw : Small ws) (lw : ws.length ≤ 60) (gx : ws[i]? = some x) : F_law_is_filling [cr ws, dPair (markF (i : Int) x l)] = .ok (.bool true) := by
  obtain ⟨x0, x1⟩ := sw x (List.mem_of_getElem? gx)
  have hi := (List.getElem?_eq_some_iff.mp gx).1
  have fo := mark_ok (l := l) gx x0
  have ml : (markF (i : Int) x l).2.length = x.toNat := by show ((iota x).map _).length = _; rw [List.length_map, iota_len]
  have m1 : (markF (i : Int) x l).1 = (i : Int) := rfl
  have bits := fo.2.2.2
  generalize markF (i : Int) x l = f at ml m1 bits
  have it : ∀ l : List PyData, isiD "tuple" (.tuple l) = .ok (.bool true) := fun _ => by
    unfold isiD
    rfl
  have ib : ∀ i : Int, isiD "bool" (.int i) = .ok (.bool false) := fun _ => by
    unfold isiD
    rfl
  have ii : ∀ i : Int, isiD "int" (.int i) = .ok (.bool true) := fun _ => by
    unfold isiD
    rfl
  have i0 : ixD (dPair f) (.int 0) = .ok (.int f.1) := rfl
  have i1 : ixD (dPair f) (.int 1) = .ok (cr f.2) := rfl
  have l2 : lenD [dPair f] = .ok (.int 2) := rfl
  have id : isiD "tuple" (dPair f) = .ok (.bool true) := it _
  generalize dPair f = D at i0 i1 l2 id
  have lnw : lenD [cr ws] = .ok (.int (ws.length : Int)) := by show Rs.ok (PyData.int ((ws.map PyData.int).length : Int)) = _; rw [List.length_map]
  have lnf : lenD [cr f.2] = .ok (.int x) := by show Rs.ok (PyData.int ((f.2.map PyData.int).length : Int)) = _; rw [List.length_map, ml, Int.toNat_of_nonneg x0]
  have ixo : ixD (cr ws) (.int f.1) = .ok (.int x) := by rw [m1]; exact q_ixT (at_get (by rw [List.getElem?_map, gx]; rfl))
  have ad : addD (.tuple [.int f.1]) (cr f.2) = .ok (cr (f.1 :: f.2)) := by
    rw [q_addT (by rw [List.length_map, lim_eq]; simp; omega)]
    rfl
  unfold F_law_is_filling
  refine fn_E (ρ := [some (false, cr ws), some (false, D), none]) rfl ?_
  refine seq_R (ρ' := [some (false, cr ws), some (false, D), none]) (by simp [id, l2, i1, it]) ?_
  have hin : decide (0 ≤ f.1 ∧ f.1 < (ws.length : Int)) = true := decide_eq_true (by rw [m1]; omega)
  refine seq_R (ρ' := [some (false, cr ws), some (false, D), none]) (by simp only [z_sIf, z_tOr, z_tB, z_2, z_CB, z_aCons, z_aNil, z_var, z_C, bind_ok', List.getElem?_cons_zero, List.getElem?_cons_succ, i0, lnw, q_inRg, hin, z_bD, i1, lnf, ixo, q_neI]; simp) ?_
  refine for_R (ds := (f.1 :: f.2).map PyData.int) (by simp only [z_items, z_2, z_tup, z_aCons, z_aNil, z_var, z_C, bind_ok', List.getElem?_cons_zero, List.getElem?_cons_succ, i0, i1, ad, q_itT]) (fun i ρ => ∃ j2, ρ = [some (false, cr ws), some (false, D), j2]) ⟨none, rfl⟩ ?_ ?_
  · intro k d ρ hd ⟨j2, hρ⟩
    subst hρ
    obtain ⟨y, _, rfl⟩ := map_get' hd
    refine stp_turn (ρ' := [some (false, cr ws), some (false, D), some (false, .int y)]) (by simp) ?_
    exact stp_of (ρ := [some (false, cr ws), some (false, D), some (false, .int y)]) (by simp [ii, ib]) ⟨_, rfl⟩
  · intro ρ' ⟨j2, hρ⟩
    subst hρ
    refine ret_R (d := .bool true) ?_ rfl
    have en : eqD (.list []) (.list []) = .ok (.bool true) := eq_same (n := 1) (gd_lst (n := 0) fun d hd => by cases hd) (by decide)
    simp only [z_2, z_L, z_lLc, z_items, z_aNil, z_var, z_C, bind_ok', List.getElem?_cons_zero, List.getElem?_cons_succ, i1, q_itT, z_wipe1, z_wipe0, List.set_cons_succ, List.set_cons_zero]
    rw [lc_flatE (enc := PyData.int) (h := fun _ : Int => []) (xs := f.2)]
    rotate_left
    · intro y hy
      obtain ⟨y0, y1⟩ := bits y hy
      have n1 : notInD (.int y) (.tuple [.int 0, .int 1]) = .ok (.bool (!decide (y ∈ [0, 1]))) := notIn_tupI y [0, 1]
      have ym : y ∈ [(0 : Int), 1] := by
        have : y = 0 ∨ y = 1 := by omega
        rcases this with rfl | rfl <;> simp
      rw [decide_eq_true ym] at n1
      simp [n1]
    have fl : (f.2.flatMap fun _ : Int => ([] : List PyData)) = [] := by simp
    rw [fl, cap_le (by simp)]
    simp [en]

theorem law_true (ns : List Int) (h : ns.length ≤ 63) : F_law_v8 [scrD (ns.map PyData.int)] = .ok (.bool true) := by
  obtain ⟨c0, e0, g0, _⟩ := law_cell (ns := ns) (k := 0) (by omega) (by decide) (by decide)
  obtain ⟨c1, e1', g1, _⟩ := law_cell (ns := ns) (k := 1) (by omega) (by decide) (by decide)
  obtain ⟨c2, e2', g2, _⟩ := law_cell (ns := ns) (k := 2) (by omega) (by decide) (by decide)
  obtain ⟨c3, e3, g3, _⟩ := law_cell (ns := ns) (k := 3) (by omega) (by decide) (by decide)
  obtain ⟨c4, e4, g4, _⟩ := law_cell (ns := ns) (k := 4) (by omega) (by decide) (by decide)
  generalize scrD (ns.map PyData.int) = S at *
  obtain ⟨ws, a0, l0, w0⟩ := law_crate (c := c0) (t := 5) (w := 5) g0 (by decide) (by decide) (by decide) (by decide)
  obtain ⟨us, a1, l1, w1⟩ := law_crate (c := c1) (t := 5) (w := 5) g1 (by decide) (by decide) (by decide) (by decide)
  have sw : Small ws := fun x hx => ⟨(w0 x hx).1, by have := (w0 x hx).2; omega⟩
  have su : Small us := fun x hx => ⟨(w1 x hx).1, by have := (w1 x hx).2; omega⟩
  have isn : ∀ y, isNoneD (dWay y) = false := fun _ => rfl
  unfold F_law_v8
  refine fn_E (ρ := [some (false, S), none, none, none, none, none, none, none]) rfl ?_
  refine seq_R (ρ' := [some (false, S), some (false, cr ws), none, none, none, none, none, none]) (by simp [e0, a0]) ?_
  refine seq_R (ρ' := [some (false, S), some (false, cr ws), some (false, cr us), none, none, none, none, none]) (by simp [e1', a1]) ?_
  rcases law_way (c := c2) (us := ws) (vs := us) g2 sw (by omega) su (by omega) with k | ⟨v, k, ok⟩
  · refine seq_R (ρ' := [some (false, S), some (false, cr ws), some (false, cr us), some (false, .none), none, none, none, none]) (by simp [e2', k]) ?_
    exact seq_Q (d := .bool true) (by simp) rfl
  obtain ⟨w, k2, ok2⟩ := law_way_any (c := c3) g3 sw (by omega) su (by omega) ok
  refine seq_R (ρ' := [some (false, S), some (false, cr ws), some (false, cr us), some (false, dWay v), none, none, none, none]) (by simp [e2', k]) ?_
  refine seq_R (ρ' := [some (false, S), some (false, cr ws), some (false, cr us), some (false, dWay v), none, none, none, none]) (by simp [isn]) ?_
  refine seq_R (ρ' := [some (false, S), some (false, cr ws), some (false, cr us), some (false, dWay v), some (false, dWay w), none, none, none]) (by simp [e3, k2]) ?_
  have m3 := q_mod (i := c4) (j := 3) (by decide)
  have lnv : lenD [dWay v] = .ok (.int (v.length : Int)) := by show Rs.ok (PyData.int ((v.map dPair).length : Int)) = _; rw [List.length_map]
  obtain ⟨m, okm, st⟩ : ∃ m, WayOk ws us m ∧ (sIf (tAnd' (tB' (e2 gtD (e2 modD (eCall F_law_cell (aCons (eVar 0) (aCons (eC (.int 4)) aNil))) (eC (.int 3))) (eC (.int 0)))) (tB' (e2 gtD (eCB lenD (aCons (eVar 3) aNil)) (eC (.int 0)))))
      (sSet 4 (eCall F_law_bent (aCons (eCall F_law_cell (aCons (eVar 0) (aCons (eC (.int 3)) aNil))) (aCons (eVar 1) (aCons (eVar 2) (aCons (eVar 3) aNil))))))
      sNil) [some (false, S), some (false, cr ws), some (false, cr us), some (false, dWay v), some (false, dWay w), none, none, none] = .ok (.nx [some (false, S), some (false, cr ws), some (false, cr us), some (false, dWay v), some (false, dWay m), none, none, none]) := by
    by_cases hc : 0 < c4 % 3 ∧ 0 < (v.length : Int)
    · obtain ⟨d, hd, m, rfl, okm⟩ := law_bent (c := c3) g3 sw su (by omega) (by omega) ok (by omega)
      refine ⟨m, okm, ?_⟩
      simp only [z_sIf, z_tAnd, z_tB, z_2, z_call, z_CB, z_aCons, z_aNil, z_var, z_C, bind_ok', List.getElem?_cons_zero, List.getElem?_cons_succ, e4, m3, q_gt, decide_eq_true hc.1, z_bD, if_true, lnv, decide_eq_true hc.2, z_set, e3, hd]
      rfl
    · refine ⟨w, ok2, ?_⟩
      by_cases h1 : 0 < c4 % 3
      · have h2 : ¬ 0 < (v.length : Int) := fun z => hc ⟨h1, z⟩
        simp only [z_sIf, z_tAnd, z_tB, z_2, z_call, z_CB, z_aCons, z_aNil, z_var, z_C, bind_ok', List.getElem?_cons_zero, List.getElem?_cons_succ, e4, m3, q_gt, decide_eq_true h1, z_bD, if_true, lnv, decide_eq_false h2]
        rfl
      · simp only [z_sIf, z_tAnd, z_tB, z_2, z_call, z_CB, z_aCons, z_aNil, z_var, z_C, bind_ok', List.getElem?_cons_zero, List.getElem?_cons_succ, e4, m3, q_gt, decide_eq_false h1, z_bD]
        rfl
  refine seq_R st ?_
  have turn1 : ∀ (t : List (Int × List Int)) (j5 j6 j7 : Option (Bool × PyData)), WayOk ws us t → Stp (turn (gN 5) (sSeq (sSet 6 (eTup (aCons (eVar 3) (aCons (eVar 5) aNil))))
      (sSeq (sSet 7 (eCall F_parting (aCons (eVar 1) (aCons (eVar 3) (aCons (eVar 5) aNil)))))
      (sSeq (sIf (tB' (e2 eqD (eVar 3) (eVar 5)))
      (sIf (tB' (e2 isNotD (eVar 7) (eC .none)))
      (sRet (eC (.bool false)))
      sNil)
      (sIf (tOr' (tNot' (tB' (eCall F_law_is_filling (aCons (eVar 1) (aCons (eVar 7) aNil))))) (tB' (e2 eqD (eCall F_law_turned (aCons (eVar 3) (aCons (eVar 7) aNil))) (eCall F_law_turned (aCons (eVar 5) (aCons (eVar 7) aNil))))))
      (sRet (eC (.bool false)))
      sNil))
      (sIf (tB' (e2 neD (eTup (aCons (eVar 3) (aCons (eVar 5) aNil))) (eVar 6)))
      (sRet (eC (.bool false)))
      sNil)))) (dWay t) [some (false, S), some (false, cr ws), some (false, cr us), some (false, dWay v), some (false, dWay m), j5, j6, j7]) (fun ρ => ∃ j5 j6 j7, ρ = [some (false, S), some (false, cr ws), some (false, cr us), some (false, dWay v), some (false, dWay m), j5, j6, j7]) := by
    intro t j5 j6 j7 okt
    have es : neD (.tuple [dWay v, dWay t]) (.tuple [dWay v, dWay t]) = .ok (.bool false) := ne_same (n := 4) (gd_two (gd_wayN v) (gd_wayN t)) (by decide)
    have eqw : eqD (dWay v) (dWay t) = .ok (.bool (decide (v = t))) := by
      rw [q_eq ((gd_wayN (n := 0) v).sh (by decide)) ((gd_wayN (n := 0) t).sh (by decide)), eqv_way]
    obtain ⟨d, ed, hd⟩ := parting_ok sw su ok okt
    refine stp_turn (ρ' := [some (false, S), some (false, cr ws), some (false, cr us), some (false, dWay v), some (false, dWay m), some (false, dWay t), j6, j7]) (by simp) ?_
    refine stp_seq (ρ' := [some (false, S), some (false, cr ws), some (false, cr us), some (false, dWay v), some (false, dWay m), some (false, dWay t), some (false, .tuple [dWay v, dWay t]), j7]) (by simp) ?_
    refine stp_seq (ρ' := [some (false, S), some (false, cr ws), some (false, cr us), some (false, dWay v), some (false, dWay m), some (false, dWay t), some (false, .tuple [dWay v, dWay t]), some (false, d)]) (by simp [ed]) ?_
    refine stp_seq (ρ' := [some (false, S), some (false, cr ws), some (false, cr us), some (false, dWay v), some (false, dWay m), some (false, dWay t), some (false, .tuple [dWay v, dWay t]), some (false, d)]) ?_ ?_
    · rcases hd with ⟨rfl, hvt⟩ | ⟨i, p, q, x, hp, hq, hx, hpq, rfl⟩
      · rw [decide_eq_true hvt] at eqw
        simp [eqw]
      · have hvt : ¬ v = t := fun z => hpq (by rw [z, hq] at hp; exact (Option.some.inj hp).symm)
        rw [decide_eq_false hvt] at eqw
        have fl := law_is_filling (l := ppart p q) sw (by omega) hx
        obtain ⟨x0, x1⟩ := sw x (List.mem_of_getElem? hx)
        have fo := mark_ok (l := ppart p q) hx x0
        have u5 : ∀ y ∈ us, y ≤ 10000 := fun y hy => by have := (su y hy).2; omega
        have t1 := (turned_way ok fo u5).2
        have t2 := (turned_way okt fo u5).2
        have m1 : (markF (i : Int) x (ppart p q)).1.toNat = i := by show ((i : Int)).toNat = i; exact Int.toNat_natCast i
        have ne : stepW v (markF (i : Int) x (ppart p q)) ≠ stepW t (markF (i : Int) x (ppart p q)) := by
          rw [step_some (w := v) (q := p) (by rw [m1]; exact hp), step_some (w := t) (q := q) (by rw [m1]; exact hq)]
          exact part_ne (ok.2 i p x hp hx) (okt.2 i q x hq hx) hpq
        have eqp := eqD_pair (stepW v (markF (i : Int) x (ppart p q))) (stepW t (markF (i : Int) x (ppart p q)))
        rw [decide_eq_false ne] at eqp
        simp [eqw, fl, t1, t2, eqp]
    · exact stp_of (ρ := [some (false, S), some (false, cr ws), some (false, cr us), some (false, dWay v), some (false, dWay m), some (false, dWay t), some (false, .tuple [dWay v, dWay t]), some (false, d)]) (by simp [es]) ⟨_, _, _, rfl⟩
  refine for_R (ds := [dWay m, dWay v]) (by simp) (fun i ρ => ∃ j5 j6 j7, ρ = [some (false, S), some (false, cr ws), some (false, cr us), some (false, dWay v), some (false, dWay m), j5, j6, j7]) ⟨none, none, none, rfl⟩ ?_ ?_
  · intro i d ρ hd ⟨j5, j6, j7, hρ⟩
    subst hρ
    match i, hd with
    | 0, hd => cases hd; exact turn1 m j5 j6 j7 okm
    | 1, hd => cases hd; exact turn1 v j5 j6 j7 ok
    | n + 2, hd => simp at hd
  · intro ρ' ⟨j5, j6, j7, hρ⟩
    subst hρ
    exact ret_R (d := .bool true) (by simp) rfl
theorem all_mk {l : PySem.W.OpenLaw} {w : World} {K : PySem.W.Frag} {h : Heap} {mg : Str → Option Value} {fa f1 f2 f3 f4 f5 f6 f7 f8 f9  : Addr} (X : K.In h) (G : h.Ns mainGlobals mg) (hfa : mg "law" = some (.ref fa))
    {od1 an1 od2 an2 od3 an3 od4 an4 od5 an5 od6 an6 od7 an7 od8 an8 od9 an9 : Option Addr} {sl1 sl2 sl3 sl4 sl5 sl6 sl7 sl8 sl9 : Array (Option Value)} {oc1 kV1 dc1 pm1 cd1 ct1 oc2 kV2 dc2 pm2 cd2 ct2 oc3 kV3 dc3 pm3 cd3 ct3 oc4 kV4 dc4 pm4 cd4 ct4 oc5 kV5 dc5 pm5 cd5 ct5 oc6 kV6 dc6 pm6 cd6 ct6 oc7 kV7 dc7 pm7 cd7 ct7 oc8 kV8 dc8 pm8 cd8 ct8 oc9 kV9 dc9 pm9 cd9 ct9 : Value}
    (a1 : PySem.W.nsIn K mainGlobals "marked" = some (some (.ref f1))) (l1 : K.lookup f1 = some ⟨oc1, od1, .func (PySem.W.fnOf "marked" "marked" (defArgs s_marked) (defBody s_marked) (defScope s_marked) .none kV1 dc1 pm1 an1 cd1 ct1), sl1⟩) (c1 : PySem.W.codeIn K cd1 "marked" = true) (k1 : PySem.W.keepIn K (.ref f1) = true)
    (a2 : PySem.W.nsIn K mainGlobals "parting" = some (some (.ref f2))) (l2 : K.lookup f2 = some ⟨oc2, od2, .func (PySem.W.fnOf "parting" "parting" (defArgs s_parting) (defBody s_parting) (defScope s_parting) .none kV2 dc2 pm2 an2 cd2 ct2), sl2⟩) (c2 : PySem.W.codeIn K cd2 "parting" = true) (k2 : PySem.W.keepIn K (.ref f2) = true)
    (a3 : PySem.W.nsIn K mainGlobals "_law_cell" = some (some (.ref f3))) (l3 : K.lookup f3 = some ⟨oc3, od3, .func (PySem.W.fnOf "_law_cell" "_law_cell" (defArgs s__law_cell) (defBody s__law_cell) (defScope s__law_cell) .none kV3 dc3 pm3 an3 cd3 ct3), sl3⟩) (c3 : PySem.W.codeIn K cd3 "_law_cell" = true) (k3 : PySem.W.keepIn K (.ref f3) = true)
    (a4 : PySem.W.nsIn K mainGlobals "_law_crate" = some (some (.ref f4))) (l4 : K.lookup f4 = some ⟨oc4, od4, .func (PySem.W.fnOf "_law_crate" "_law_crate" (defArgs s__law_crate) (defBody s__law_crate) (defScope s__law_crate) .none kV4 dc4 pm4 an4 cd4 ct4), sl4⟩) (c4 : PySem.W.codeIn K cd4 "_law_crate" = true) (k4 : PySem.W.keepIn K (.ref f4) = true)
    (a5 : PySem.W.nsIn K mainGlobals "_law_way" = some (some (.ref f5))) (l5 : K.lookup f5 = some ⟨oc5, od5, .func (PySem.W.fnOf "_law_way" "_law_way" (defArgs s__law_way) (defBody s__law_way) (defScope s__law_way) .none kV5 dc5 pm5 an5 cd5 ct5), sl5⟩) (c5 : PySem.W.codeIn K cd5 "_law_way" = true) (k5 : PySem.W.keepIn K (.ref f5) = true)
    (a6 : PySem.W.nsIn K mainGlobals "_law_turned" = some (some (.ref f6))) (l6 : K.lookup f6 = some ⟨oc6, od6, .func (PySem.W.fnOf "_law_turned" "_law_turned" (defArgs s__law_turned) (defBody s__law_turned) (defScope s__law_turned) .none kV6 dc6 pm6 an6 cd6 ct6), sl6⟩) (c6 : PySem.W.codeIn K cd6 "_law_turned" = true) (k6 : PySem.W.keepIn K (.ref f6) = true)
    (a7 : PySem.W.nsIn K mainGlobals "_law_bent" = some (some (.ref f7))) (l7 : K.lookup f7 = some ⟨oc7, od7, .func (PySem.W.fnOf "_law_bent" "_law_bent" (defArgs s__law_bent) (defBody s__law_bent) (defScope s__law_bent) .none kV7 dc7 pm7 an7 cd7 ct7), sl7⟩) (c7 : PySem.W.codeIn K cd7 "_law_bent" = true) (k7 : PySem.W.keepIn K (.ref f7) = true)
    (a8 : PySem.W.nsIn K mainGlobals "_law_is_filling" = some (some (.ref f8))) (l8 : K.lookup f8 = some ⟨oc8, od8, .func (PySem.W.fnOf "_law_is_filling" "_law_is_filling" (defArgs s__law_is_filling) (defBody s__law_is_filling) (defScope s__law_is_filling) .none kV8 dc8 pm8 an8 cd8 ct8), sl8⟩) (c8 : PySem.W.codeIn K cd8 "_law_is_filling" = true) (k8 : PySem.W.keepIn K (.ref f8) = true)
    (a9 : PySem.W.nsIn K mainGlobals "law" = some (some (.ref f9))) (l9 : K.lookup f9 = some ⟨oc9, od9, .func (PySem.W.fnOf "law" "law" (defArgs s_law) (defBody s_law) (defScope s_law) .none kV9 dc9 pm9 an9 cd9 ct9), sl9⟩) (c9 : PySem.W.codeIn K cd9 "law" = true) (k9 : PySem.W.keepIn K (.ref f9) = true)
    (z_bool : PySem.W.nsIn K mainGlobals "bool" = some none)
    (z_enumerate : PySem.W.nsIn K mainGlobals "enumerate" = some none)
    (z_int : PySem.W.nsIn K mainGlobals "int" = some none)
    (z_isinstance : PySem.W.nsIn K mainGlobals "isinstance" = some none)
    (z_len : PySem.W.nsIn K mainGlobals "len" = some none)
    (z_range : PySem.W.nsIn K mainGlobals "range" = some none)
    (z_tuple : PySem.W.nsIn K mainGlobals "tuple" = some none)
    (z_zip : PySem.W.nsIn K mainGlobals "zip" = some none)
    : ∃ fd : FuncData, (∀ (s : Shared) (v : Value), BindsTo s fd ⟨[v], []⟩ [("script", v)]) ∧ ∀ base : Heap, K.In base → base.Ns mainGlobals mg → FnOk l.prog w K mg base (L2.CX l.prog w) 3 fa fd ["script"] (spLawD K) := by
  have e := hfa.symm.trans (PySem.W.mg_of X G a9)
  cases e
  have F1 := fun_mk (st := s_marked) l1 c1 k1
  have F2 := fun_mk (st := s_parting) l2 c2 k2
  have F3 := fun_mk (st := s__law_cell) l3 c3 k3
  have F4 := fun_mk (st := s__law_crate) l4 c4 k4
  have F5 := fun_mk (st := s__law_way) l5 c5 k5
  have F6 := fun_mk (st := s__law_turned) l6 c6 k6
  have F7 := fun_mk (st := s__law_bent) l7 c7 k7
  have F8 := fun_mk (st := s__law_is_filling) l8 c8 k8
  have F9 := fun_mk (st := s_law) l9 c9 k9
  refine ⟨PySem.W.fnOf "law" "law" (defArgs s_law) (defBody s_law) (defScope s_law) .none kV9 dc9 pm9 an9 cd9 ct9, fun s v => .of_eq rfl, fun base _ _ => ?_⟩
  have h_marked := fd_marked (G := ⟨l.prog, w, K, mg, base, clsOf mg⟩) F1 (F1.binds (ps := ["crate", "tray", "wells"]) fun _ _ _ _ _ _ us hl => match us, hl with | [_, _, _], _ => rfl) (PySem.W.mg_of X G a1) (PySem.W.mg_none_of X G z_range) (PySem.W.mg_none_of X G z_tuple)
  have h_parting := fd_parting (G := ⟨l.prog, w, K, mg, base, clsOf mg⟩) F2 (F2.binds (ps := ["one", "way", "other_way"]) fun _ _ _ _ _ _ us hl => match us, hl with | [_, _, _], _ => rfl) (PySem.W.mg_of X G a2) h_marked (PySem.W.mg_none_of X G z_enumerate) (PySem.W.mg_none_of X G z_zip)
  have h__law_cell := fd__law_cell (G := ⟨l.prog, w, K, mg, base, clsOf mg⟩) F3 (F3.binds (ps := ["script", "k"]) fun _ _ _ _ _ _ us hl => match us, hl with | [_, _], _ => rfl) (PySem.W.mg_of X G a3) (PySem.W.mg_none_of X G z_len)
  have h__law_crate := fd__law_crate (G := ⟨l.prog, w, K, mg, base, clsOf mg⟩) F4 (F4.binds (ps := ["cell", "trays", "wells"]) fun _ _ _ _ _ _ us hl => match us, hl with | [_, _, _], _ => rfl) (PySem.W.mg_of X G a4) (PySem.W.mg_none_of X G z_range) (PySem.W.mg_none_of X G z_tuple)
  have h__law_way := fd__law_way (G := ⟨l.prog, w, K, mg, base, clsOf mg⟩) F5 (F5.binds (ps := ["cell", "one", "other"]) fun _ _ _ _ _ _ us hl => match us, hl with | [_, _, _], _ => rfl) (PySem.W.mg_of X G a5) (PySem.W.mg_none_of X G z_enumerate) (PySem.W.mg_none_of X G z_len) (PySem.W.mg_none_of X G z_range) (PySem.W.mg_none_of X G z_tuple)
  have h__law_turned := fd__law_turned (G := ⟨l.prog, w, K, mg, base, clsOf mg⟩) F6 (F6.binds (ps := ["way", "filling"]) fun _ _ _ _ _ _ us hl => match us, hl with | [_, _], _ => rfl) (PySem.W.mg_of X G a6) (PySem.W.mg_none_of X G z_tuple)
  have h__law_bent := fd__law_bent (G := ⟨l.prog, w, K, mg, base, clsOf mg⟩) F7 (F7.binds (ps := ["cell", "one", "other", "way"]) fun _ _ _ _ _ _ us hl => match us, hl with | [_, _, _, _], _ => rfl) (PySem.W.mg_of X G a7) (PySem.W.mg_none_of X G z_len) (PySem.W.mg_none_of X G z_range)
  have h__law_is_filling := fd__law_is_filling (G := ⟨l.prog, w, K, mg, base, clsOf mg⟩) F8 (F8.binds (ps := ["crate", "thing"]) fun _ _ _ _ _ _ us hl => match us, hl with | [_, _], _ => rfl) (PySem.W.mg_of X G a8) (PySem.W.mg_none_of X G z_bool) (PySem.W.mg_none_of X G z_int) (PySem.W.mg_none_of X G z_isinstance) (PySem.W.mg_none_of X G z_len) (PySem.W.mg_none_of X G z_range) (PySem.W.mg_none_of X G z_tuple)
  exact (ok_law (G := ⟨l.prog, w, K, mg, base, clsOf mg⟩) F9 h__law_turned h__law_is_filling h_parting h__law_cell h__law_bent h__law_way h__law_crate (PySem.W.mg_none_of X G z_len)).imp (law_imp law_true)
end Tm
open PySem PySem.W PyProof.Rows
set_option maxHeartbeats 0 in
theorem PySem.Challenge.cw_traymap_k20_what_parts_two_ways_holds : PySem.Challenge.rw_traymap_k20_what_parts_two_ways.Holds := by
  w_on; o_law; k_head; (case hw => w_witness2)
  k_fill
  refine L2.walk_of (l := PySem.Challenge.rw_traymap_k20_what_parts_two_ways) (n := 63) (k := 3) (x := "script") (CX := fun w => L2.CX PySem.Challenge.rw_traymap_k20_what_parts_two_ways.prog w) (sp := fun w => Tm.spLawD _) rfl (by decide) rfl ⟨rfl, by decide, by decide⟩ (fun w h Y => PySem.W.kIn_of Y) ?F (fun _ _ a ns hl _ hS => ⟨a, ns, rfl, hl, hS, fun _ => rfl⟩) (fun _ H s e s' h => Tm.cx_false H s e s' h)
  case F =>
    intro w mg fa h KX G hmg
    refine' Tm.all_mk KX G hmg ?a1 ?l1 ?c1 ?k1 ?a2 ?l2 ?c2 ?k2 ?a3 ?l3 ?c3 ?k3 ?a4 ?l4 ?c4 ?k4 ?a5 ?l5 ?c5 ?k5 ?a6 ?l6 ?c6 ?k6 ?a7 ?l7 ?c7 ?k7 ?a8 ?l8 ?c8 ?k8 ?a9 ?l9 ?c9 ?k9 ?z_bool ?z_enumerate ?z_int ?z_isinstance ?z_len ?z_range ?z_tuple ?z_zip
    (case a1 => k_is); (case l1 => k_is); (case c1 => k_is); (case k1 => k_is); (case a2 => k_is); (case l2 => k_is); (case c2 => k_is); (case k2 => k_is); (case a3 => k_is); (case l3 => k_is); (case c3 => k_is); (case k3 => k_is); (case a4 => k_is); (case l4 => k_is); (case c4 => k_is); (case k4 => k_is); (case a5 => k_is); (case l5 => k_is); (case c5 => k_is); (case k5 => k_is); (case a6 => k_is); (case l6 => k_is); (case c6 => k_is); (case k6 => k_is); (case a7 => k_is); (case l7 => k_is); (case c7 => k_is); (case k7 => k_is); (case a8 => k_is); (case l8 => k_is); (case c8 => k_is); (case k8 => k_is); (case a9 => k_is); (case l9 => k_is); (case c9 => k_is); (case k9 => k_is); (case z_bool => k_is); (case z_enumerate => k_is); (case z_int => k_is); (case z_isinstance => k_is); (case z_len => k_is); (case z_range => k_is); (case z_tuple => k_is); (case z_zip => k_is)
